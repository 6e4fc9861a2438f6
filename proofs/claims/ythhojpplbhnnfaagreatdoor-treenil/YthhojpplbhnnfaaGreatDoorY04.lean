/- A tree: a header that is new and may stand is added: its contract. block.Mine, whatever the header and the number of tries: its contract. -/
import Derived.Test.YthhojpplbhnnfaaGreatDoorX01
import Derived.Test.YthhojpplbhnnfaaGreatDoorX02
import Derived.Test.YthhojpplbhnnfaaGreatDoorX03
import Derived.Test.YthhojpplbhnnfaaGreatDoorX04
import Derived.Test.YthhojpplbhnnfaaGreatDoorX05
import Derived.Test.YthhojpplbhnnfaaGreatDoorX06
import Derived.Test.YthhojpplbhnnfaaGreatDoorX07
import Derived.Test.YthhojpplbhnnfaaGreatDoorX08
import Derived.Test.YthhojpplbhnnfaaGreatDoorX09
import Derived.Test.YthhojpplbhnnfaaGreatDoorX10
import Derived.Test.YthhojpplbhnnfaaGreatDoorX11
import Derived.Test.YthhojpplbhnnfaaGreatDoorX12
import Derived.Test.YthhojpplbhnnfaaGreatDoorX13
import Derived.Test.YthhojpplbhnnfaaGreatDoorX14
import Derived.Test.YthhojpplbhnnfaaGreatDoorX15
import Derived.Test.YthhojpplbhnnfaaGreatDoorX16
import Derived.Test.YthhojpplbhnnfaaGreatDoorX17
import Derived.Test.YthhojpplbhnnfaaGreatDoorX18
import Derived.Test.YthhojpplbhnnfaaGreatDoorX19
import Derived.Test.YthhojpplbhnnfaaGreatDoorX20
import Derived.Test.YthhojpplbhnnfaaGreatDoorX21
import Derived.Test.YthhojpplbhnnfaaGreatDoorX22
import Derived.Test.YthhojpplbhnnfaaGreatDoorX23
import Derived.Test.YthhojpplbhnnfaaGreatDoorX24
import Derived.Test.YthhojpplbhnnfaaGreatDoorX25
import Derived.Test.YthhojpplbhnnfaaGreatDoorX26
import Derived.Test.YthhojpplbhnnfaaGreatDoorX27
import Derived.Test.YthhojpplbhnnfaaGreatDoorX28
import Derived.Test.YthhojpplbhnnfaaGreatDoorX29
import Derived.Test.YthhojpplbhnnfaaGreatDoorX30
import Derived.Test.YthhojpplbhnnfaaGreatDoorX31
import Derived.Test.YthhojpplbhnnfaaGreatDoorX32
import Derived.Test.YthhojpplbhnnfaaGreatDoorX33
import Derived.Test.YthhojpplbhnnfaaGreatDoorX34
import Derived.Test.YthhojpplbhnnfaaGreatDoorX35
import Derived.Test.YthhojpplbhnnfaaGreatDoorX36
import Derived.Test.YthhojpplbhnnfaaGreatDoorX37
import Derived.Test.YthhojpplbhnnfaaGreatDoorX38
import Derived.Test.YthhojpplbhnnfaaGreatDoorX39
import Derived.Test.YthhojpplbhnnfaaGreatDoorX40
import Derived.Test.YthhojpplbhnnfaaGreatDoorX41
import Derived.Test.YthhojpplbhnnfaaGreatDoorX42
import Derived.Test.YthhojpplbhnnfaaGreatDoorX43
import Derived.Test.YthhojpplbhnnfaaGreatDoorX44
import Derived.Test.YthhojpplbhnnfaaGreatDoorY01
import Derived.Test.YthhojpplbhnnfaaGreatDoorY02
import Derived.Test.YthhojpplbhnnfaaGreatDoorY03
namespace Go.Proofs.YthhojpplbhnnfaaGreatDoor
open Go.RowKit
open Go.Deep
open Go.Maps
set_option linter.unusedVariables false
set_option linter.unusedSimpArgs false
section
set_option maxRecDepth 10000
set_option maxHeartbeats 8000000
theorem add_ok {B w : World} {gt gm n : Nat} {D : DataW Unit} {ve : Value} {L : List Tno} {tu be bh : Nat} (h : Tm4 B w gt gm n D ve L tu be bh) (hK : Kg w) (x : Hd) (now : Nat) (c : Int) (hat1 : D.atKey (.string x.id) (.lit (.int .i64 0)) = .lit (.int .i64 c)) (hh1 : Maps.has D (.string x.id) = false) (hmt : x.meets = true) (k : Nat) (hat2 : D.atKey (.string x.prev) (.lit (.int .i64 0)) = .lit (.int .i64 (k : Int))) (hh2 : Maps.has D (.string x.prev) = true) (Q : World → Prop)
    (HF : ∀ W, Tm4 B W gt gm n D ve L tu be bh → Calls Tryz.prog 67 #[.pointer (some ⟨gt, 0, none⟩), .agg x.cells.toArray, .int .i64 (k : Int), .int .u32 (now : Int)] W fun e w' => e = .returned (.int .i64 0) ∧ Below W.heap.size W w')
    (HH : ∀ W, Tm4 B W gt gm n D ve L tu be bh → Calls Tryz.prog 68 #[.pointer (some ⟨gt, 0, none⟩), .agg (hc x.id), .agg x.cells.toArray, .int .i64 (k : Int)] W fun e w' => e = .returned (.tuple #[]) ∧ Q w') :
    Calls Tryz.prog 19 #[.pointer (some ⟨gt, 0, none⟩), .agg x.cells.toArray, .int .u32 (now : Int)] w fun e w' => e = .returned (.tuple #[.bool true, .int .i64 0]) ∧ Q w' := by
  have r4 := heap_alloc_last w (.cells x.cells.toArray 48)
  have R4 := hide r4
  have b1 := (Below.refl w.heap.size w).alloc (Nat.le_refl _) (.cells x.cells.toArray 48)
  have X1 := hide (h.next b1)
  have KS : Hid (∀ W, Below (w.alloc (.cells x.cells.toArray 48)).heap.size (w.alloc (.cells x.cells.toArray 48)) W → Kg W) := fun W b => hK.next (below_next b1 b)
  have CZ := hide (And.intro (And.intro (show (hc x.id).size = 32 by rw [hc_size, x.id_len]) (hc_one x.id)) (And.intro x.size x.all))
  have HI : Hid (∀ W, Kg W → Calls Tryz.prog 33 #[.agg x.cells.toArray] W fun e w' => e = .returned (.agg (hc x.id)) ∧ Below W.heap.size W w') := fun W q => hid_any x W q
  have HM : Hid (∀ W, Calls Tryz.prog 66 #[.agg (hc x.id), .int .u32 (x.bits.toNat : Int)] W fun e w' => e = .returned (.bool true) ∧ Below W.heap.size W w') := fun W => by
    have := meets_any x.id x.id_len x.bits.toNat x.bits.toNat_lt W
    rw [show mt x.id x.bits.toNat = true from hmt] at this
    exact this
  have L1 : Hid (∀ W, Tm4 B W gt gm n D ve L tu be bh → (Instr.lookup 100 (.map (some gm)) (.agg (hc x.id)) true).run Tryz.prog W = .ok (.tuple #[.int .i64 c, .bool false]) W) := fun W q => by
    have := look14 q.map x.id x.id_len c hat1
    rw [hh1] at this
    exact this
  have L2 : Hid (∀ W, Tm4 B W gt gm n D ve L tu be bh → (Instr.lookup 100 (.map (some gm)) (.agg (hc x.prev)) true).run Tryz.prog W = .ok (.tuple #[.int .i64 (k : Int), .bool true]) W) := fun W q => by
    have := look14 q.map x.prev x.hp k hat2
    rw [hh2] at this
    exact this
  have CB : Hid (∀ (W : World) (g : Nat), W.heap[g]? = some (.cells x.cells.toArray 48 (0, 0)) → W.cell? ⟨g, 66, none⟩ = some (.int .u32 (x.bits.toNat : Int)) ∧ W.rangeAt g 1 (cellsL x.prev)) := fun W g e => by
    have q1 := x.bits0 (rowAt _ e)
    have q2 := x.prevR (rowAt _ e)
    rw [Nat.zero_add] at q1 q2
    exact ⟨q1, q2⟩
  have HP := hide x.hp
  have HFt := hide HF
  have HHg := hide HH
  clear r4 b1 h hK hat1 hh1 hmt hat2 hh2 HF HH
  generalize hc x.id = C at *
  generalize x.bits.toNat = NB at *
  generalize x.prev = PV at *
  generalize x.cells.toArray = CX at *
  go_enter Tryz.func19, Tryz.ntmps19
  go_upto_region 3 with ((with_reducible refine at_list ?_); refine wpList_boxA rfl _ rfl CX rfl ?_)
  generalize w.alloc (.cells CX 48) = W0 at *
  go_upto_region 4 with (first | (go_at_call 33; refine (HI.out _ (KS.out _ (Below.refl _ _))).mono ?_; rintro e W1 ⟨rfl, be⟩; have D1 := hide be; clear be) | ((with_reducible refine at_list ?_); first | refine wpList_loadS AHd _ rfl w.heap.size rfl CX CZ.out.2.1 48 R4.out (by rfl) ?_ | refine wpList_allocA A25 rfl rfl ?_ | refine wpList_store_newA A25 rfl _ _ rfl _ rfl C CZ.out.1.1 CZ.out.1.2 rfl rfl ?_))
  have b2 := (Below.refl W1.heap.size W1).alloc (Nat.le_refl _) (.cells C 46)
  have D2 := hide (below_next D1.out b2)
  have X2 := hide (X1.out.next D2.out)
  have R8 := hide (heap_alloc_last W1 (.cells C 46))
  have R4b := hide ((D2.out.block _ (lt_heap R4.out)).trans R4.out)
  clear b2 D1 X1 R4 KS HI
  generalize W1.alloc (.cells C 46) = W2 at *
  generalize W1.heap.size = g8 at *
  have DV := hide (Below.refl W2.heap.size W2).drew
  refine wp_region_held_drew (S := fun W => Below W2.heap.size W2 W) (by kernel_rfl) DV.out (fun hH => ?_)
  generalize W2.drew = V1 at *
  refine wpAnyH_take (i := 0) (v := (.pointer (some ⟨gt, 0, none⟩))) rfl (by kernel_rfl) (by kernel_rfl) (by kernel_rfl) (fun _ _ _ h => h) (yl_move (by rfl) _ (by rfl) _ (by rfl)) hH ?_
  change wpAnyH _ _ _ _ _ _ _ (Act.put _ (some 19) _) _
  simp only [Act.put, List.setIfInBounds_toArray, List.set_cons_zero, List.set_cons_succ]
  refine wpAnyH_take (i := 1) (v := (.pointer (some ⟨gt, 0, none⟩))) rfl (by kernel_rfl) (by kernel_rfl) (by kernel_rfl) (fun _ _ _ h => h) (.inl ⟨by rfl, fun W _ => by go_simp⟩) hH ?_
  change wpAnyH _ _ _ _ _ _ _ (Act.put _ (some 20) _) _
  simp only [Act.put, List.setIfInBounds_toArray, List.set_cons_zero, List.set_cons_succ]
  refine wpAnyH_take (i := 2) (v := (.pointer (some ⟨gt, 0, none⟩))) rfl (by kernel_rfl) (by kernel_rfl) (by kernel_rfl) (fun _ _ _ h => h) (.inl ⟨by rfl, fun W _ => by go_simp⟩) hH ?_
  change wpAnyH _ _ _ _ _ _ _ (Act.put _ (some 21) _) _
  simp only [Act.put, List.setIfInBounds_toArray, List.set_cons_zero, List.set_cons_succ]
  refine wpAnyH_take (i := 3) (v := (.map (some gm))) rfl (by kernel_rfl) (by kernel_rfl) (by kernel_rfl) (fun _ _ _ h => h) (.inl ⟨by rfl, fun W hS => by have c4 := (X2.out.next hS).cells.1; go_simp⟩) hH ?_
  change wpAnyH _ _ _ _ _ _ _ (Act.put _ (some 22) _) _
  simp only [Act.put, List.setIfInBounds_toArray, List.set_cons_zero, List.set_cons_succ]
  refine wpAnyH_take (i := 4) (v := (.agg C)) rfl (by kernel_rfl) (by kernel_rfl) (by kernel_rfl) (fun _ _ _ h => h) (yl_load (by rfl) _ (by rfl) _ C (by rfl) (fun W hS => ld_row A25 CZ.out.1.1 ((hS.block _ (lt_heap R8.out)).trans R8.out))) hH ?_
  change wpAnyH _ _ _ _ _ _ _ (Act.put _ (some 23) _) _
  simp only [Act.put, List.setIfInBounds_toArray, List.set_cons_zero, List.set_cons_succ]
  refine wpAnyH_take (i := 5) (v := (.tuple #[.int .i64 c, .bool false])) rfl (by kernel_rfl) (by kernel_rfl) (by kernel_rfl) (fun _ _ _ h => h) (yl_look14 (by rfl) _ _ _ (by rfl) _ _ (by rfl) (by rfl) _ (fun W hS => L1.out W (X2.out.next hS))) hH ?_
  change wpAnyH _ _ _ _ _ _ _ (Act.put _ (some 24) _) _
  simp only [Act.put, List.setIfInBounds_toArray, List.set_cons_zero, List.set_cons_succ]
  refine wpAnyH_take (i := 6) (v := (.tuple #[.int .i64 c, .bool false])) rfl (by kernel_rfl) (by kernel_rfl) (by kernel_rfl) (fun _ _ _ h => h) (yl_move (by rfl) _ (by rfl) _ (by rfl)) hH ?_
  change wpAnyH _ _ _ _ _ _ _ (Act.put _ (some 18) _) _
  simp only [Act.put, List.setIfInBounds_toArray, List.set_cons_zero, List.set_cons_succ]
  refine wpAnyH_take (i := 7) (v := (.int .i64 c)) rfl (by kernel_rfl) (by kernel_rfl) (by kernel_rfl) (fun _ _ _ h => h) (.inl ⟨by rfl, fun W _ => by go_simp⟩) hH ?_
  change wpAnyH _ _ _ _ _ _ _ (Act.put _ (some 25) _) _
  simp only [Act.put, List.setIfInBounds_toArray, List.set_cons_zero, List.set_cons_succ]
  refine wpAnyH_take (i := 8) (v := (.bool false)) rfl (by kernel_rfl) (by kernel_rfl) (by kernel_rfl) (fun _ _ _ h => h) (.inl ⟨by rfl, fun W _ => by go_simp⟩) hH ?_
  change wpAnyH _ _ _ _ _ _ _ (Act.put _ (some 26) _) _
  simp only [Act.put, List.setIfInBounds_toArray, List.set_cons_zero, List.set_cons_succ]
  refine wpAnyH_take (i := 9) (v := (.int .i64 c)) rfl (by kernel_rfl) (by kernel_rfl) (by kernel_rfl) (fun _ _ _ h => h) (.inl ⟨by rfl, fun W _ => by go_simp⟩) hH ?_
  change wpAnyH _ _ _ _ _ _ _ (Act.put _ (some 9) _) _
  simp only [Act.put, List.setIfInBounds_toArray, List.set_cons_zero, List.set_cons_succ]
  refine wpAnyH_take (i := 10) (v := (.bool false)) rfl (by kernel_rfl) (by kernel_rfl) (by kernel_rfl) (fun _ _ _ h => h) (.inl ⟨by rfl, fun W _ => by go_simp⟩) hH ?_
  change wpAnyH _ _ _ _ _ _ _ (Act.put _ (some 10) _) _
  simp only [Act.put, List.setIfInBounds_toArray, List.set_cons_zero, List.set_cons_succ]
  refine wpAnyH_done (by kernel_rfl) ?_ _
  clear hH
  have R8b := hide ((DV.out.block _ (lt_heap R8.out)).trans R8.out)
  have R4c := hide ((DV.out.block _ (lt_heap R4b.out)).trans R4b.out)
  have X3 := hide (X2.out.next DV.out)
  have c66 := (CB.out _ _ R4c.out).1
  clear R8 R4b X2 DV L1
  go_upto_region 9 with (first | (go_at_call 66; refine (HM.out _).mono ?_; rintro e W4 ⟨rfl, be⟩; have D4 := hide be; clear be) | ((with_reducible refine at_list ?_); refine wpList_loadS A25 _ rfl g8 rfl C CZ.out.1.1 46 R8b.out (by rfl) ?_))
  have X4 := hide (X3.out.next D4.out)
  have R8c := hide ((D4.out.block _ (lt_heap R8b.out)).trans R8b.out)
  have R4d := hide ((D4.out.block _ (lt_heap R4c.out)).trans R4c.out)
  clear c66 R8b R4c X3 D4
  have DV := hide (Below.refl W4.heap.size W4).drew
  refine wp_region_held_drew (S := fun W => Below W4.heap.size W4 W) (by kernel_rfl) DV.out (fun hH => ?_)
  generalize W4.drew = V4 at *
  refine wpAnyH_take (i := 0) (v := (.pointer (some ⟨gt, 0, none⟩))) rfl (by kernel_rfl) (by kernel_rfl) (by kernel_rfl) (fun _ _ _ h => h) (yl_move (by rfl) _ (by rfl) _ (by rfl)) hH ?_
  change wpAnyH _ _ _ _ _ _ _ (Act.put _ (some 34) _) _
  simp only [Act.put, List.setIfInBounds_toArray, List.set_cons_zero, List.set_cons_succ]
  refine wpAnyH_take (i := 1) (v := (.pointer (some ⟨gt, 0, none⟩))) rfl (by kernel_rfl) (by kernel_rfl) (by kernel_rfl) (fun _ _ _ h => h) (.inl ⟨by rfl, fun W _ => by go_simp⟩) hH ?_
  change wpAnyH _ _ _ _ _ _ _ (Act.put _ (some 35) _) _
  simp only [Act.put, List.setIfInBounds_toArray, List.set_cons_zero, List.set_cons_succ]
  refine wpAnyH_take (i := 2) (v := (.pointer (some ⟨gt, 0, none⟩))) rfl (by kernel_rfl) (by kernel_rfl) (by kernel_rfl) (fun _ _ _ h => h) (.inl ⟨by rfl, fun W _ => by go_simp⟩) hH ?_
  change wpAnyH _ _ _ _ _ _ _ (Act.put _ (some 36) _) _
  simp only [Act.put, List.setIfInBounds_toArray, List.set_cons_zero, List.set_cons_succ]
  refine wpAnyH_take (i := 3) (v := (.map (some gm))) rfl (by kernel_rfl) (by kernel_rfl) (by kernel_rfl) (fun _ _ _ h => h) (.inl ⟨by rfl, fun W hS => by have c4 := (X4.out.next hS).cells.1; go_simp⟩) hH ?_
  change wpAnyH _ _ _ _ _ _ _ (Act.put _ (some 37) _) _
  simp only [Act.put, List.setIfInBounds_toArray, List.set_cons_zero, List.set_cons_succ]
  refine wpAnyH_take (i := 4) (v := (.pointer (some ⟨w.heap.size, 1, none⟩))) rfl (by kernel_rfl) (by kernel_rfl) (by kernel_rfl) (fun _ _ _ h => h) (.inl ⟨by rfl, fun W _ => by go_simp⟩) hH ?_
  change wpAnyH _ _ _ _ _ _ _ (Act.put _ (some 38) _) _
  simp only [Act.put, List.setIfInBounds_toArray, List.set_cons_zero, List.set_cons_succ]
  refine wpAnyH_take (i := 5) (v := (.agg (hc PV))) rfl (by kernel_rfl) (by kernel_rfl) (by kernel_rfl) (fun _ _ _ h => h) (yl_load (by rfl) _ (by rfl) _ (hc PV) (by rfl) (fun W hS => ld25_14 HP.out (CB.out W _ ((hS.block _ (lt_heap R4d.out)).trans R4d.out)).2)) hH ?_
  change wpAnyH _ _ _ _ _ _ _ (Act.put _ (some 39) _) _
  simp only [Act.put, List.setIfInBounds_toArray, List.set_cons_zero, List.set_cons_succ]
  refine wpAnyH_take (i := 6) (v := (.tuple #[.int .i64 (k : Int), .bool true])) rfl (by kernel_rfl) (by kernel_rfl) (by kernel_rfl) (fun _ _ _ h => h) (yl_look14 (by rfl) _ _ _ (by rfl) _ _ (by rfl) (by rfl) _ (fun W hS => L2.out W (X4.out.next hS))) hH ?_
  change wpAnyH _ _ _ _ _ _ _ (Act.put _ (some 40) _) _
  simp only [Act.put, List.setIfInBounds_toArray, List.set_cons_zero, List.set_cons_succ]
  refine wpAnyH_take (i := 7) (v := (.tuple #[.int .i64 (k : Int), .bool true])) rfl (by kernel_rfl) (by kernel_rfl) (by kernel_rfl) (fun _ _ _ h => h) (yl_move (by rfl) _ (by rfl) _ (by rfl)) hH ?_
  change wpAnyH _ _ _ _ _ _ _ (Act.put _ (some 33) _) _
  simp only [Act.put, List.setIfInBounds_toArray, List.set_cons_zero, List.set_cons_succ]
  refine wpAnyH_take (i := 8) (v := (.int .i64 (k : Int))) rfl (by kernel_rfl) (by kernel_rfl) (by kernel_rfl) (fun _ _ _ h => h) (.inl ⟨by rfl, fun W _ => by go_simp⟩) hH ?_
  change wpAnyH _ _ _ _ _ _ _ (Act.put _ (some 41) _) _
  simp only [Act.put, List.setIfInBounds_toArray, List.set_cons_zero, List.set_cons_succ]
  refine wpAnyH_take (i := 9) (v := (.bool true)) rfl (by kernel_rfl) (by kernel_rfl) (by kernel_rfl) (fun _ _ _ h => h) (.inl ⟨by rfl, fun W _ => by go_simp⟩) hH ?_
  change wpAnyH _ _ _ _ _ _ _ (Act.put _ (some 42) _) _
  simp only [Act.put, List.setIfInBounds_toArray, List.set_cons_zero, List.set_cons_succ]
  refine wpAnyH_take (i := 10) (v := (.int .i64 (k : Int))) rfl (by kernel_rfl) (by kernel_rfl) (by kernel_rfl) (fun _ _ _ h => h) (.inl ⟨by rfl, fun W _ => by go_simp⟩) hH ?_
  change wpAnyH _ _ _ _ _ _ _ (Act.put _ (some 11) _) _
  simp only [Act.put, List.setIfInBounds_toArray, List.set_cons_zero, List.set_cons_succ]
  refine wpAnyH_take (i := 11) (v := (.bool true)) rfl (by kernel_rfl) (by kernel_rfl) (by kernel_rfl) (fun _ _ _ h => h) (.inl ⟨by rfl, fun W _ => by go_simp⟩) hH ?_
  change wpAnyH _ _ _ _ _ _ _ (Act.put _ (some 12) _) _
  simp only [Act.put, List.setIfInBounds_toArray, List.set_cons_zero, List.set_cons_succ]
  refine wpAnyH_done (by kernel_rfl) ?_ _
  clear hH
  have R8d := hide ((DV.out.block _ (lt_heap R8c.out)).trans R8c.out)
  have R4e := hide ((DV.out.block _ (lt_heap R4d.out)).trans R4d.out)
  have X5 := hide (X4.out.next DV.out)
  clear R8c R4d X4 DV L2 CB HM
  go_upto_region 13 with (first | (go_at_call 67; refine (HFt.out _ X5.out).mono ?_; rintro e W6 ⟨rfl, be⟩; have D6 := hide be; clear be) | ((with_reducible refine at_list ?_); refine wpList_loadS AHd _ rfl w.heap.size rfl CX CZ.out.2.1 48 R4e.out (by rfl) ?_))
  have R8e := hide ((D6.out.block _ (lt_heap R8d.out)).trans R8d.out)
  have R4f := hide ((D6.out.block _ (lt_heap R4e.out)).trans R4e.out)
  have X6 := hide (X5.out.next D6.out)
  clear R8d R4e X5 D6 HFt
  go_wp2_with (first | (go_at_call 68; refine (HHg.out _ X6.out).mono ?_; rintro e W7 ⟨rfl, q7⟩; have Q7 := hide q7; clear q7) | ((with_reducible refine at_list ?_); first | refine wpList_loadS A25 _ rfl g8 rfl C CZ.out.1.1 46 R8e.out (by rfl) ?_ | refine wpList_loadS AHd _ rfl w.heap.size rfl CX CZ.out.2.1 48 R4f.out (by rfl) ?_))
  go_ret2
  exact ⟨rfl, Q7.out⟩
end
end Go.Proofs.YthhojpplbhnnfaaGreatDoor
namespace Go.Proofs.YthhojpplbhnnfaaGreatDoor
open Go.RowKit
open Go.Deep
set_option linter.unusedVariables false
set_option linter.unusedSimpArgs false
/-- What Mine tells: so many tries, from a nonce on. -/
def mineT (h : Hd) : Nat → Nat → Hd × Bool
  | 0, _ => (h, false)
  | f + 1, j => if (h.at j).meets = true then (h.at j, true) else mineT h f (j + 1)
/-- The number behind the last nonce that is tried. -/
def mnE (h : Hd) (tr : Nat) : Nat := min (h.nonce.toNat + tr) 4294967296
def mineH (h : Hd) (tr : Nat) : Hd × Bool := if okB h.bits.toNat = true then mineT h (mnE h tr - h.nonce.toNat) h.nonce.toNat else (h, false)
theorem mineT_yes (h : Hd) (k : Nat) (hyes : (h.at k).meets = true) : ∀ (f j : Nat), j ≤ k → k < j + f → (∀ i, j ≤ i → i < k → (h.at i).meets = false) → mineT h f j = (h.at k, true) := by
  intro f
  induction f with
  | zero => intro j h1 h2; omega
  | succ f ih =>
    intro j h1 h2 hno
    unfold mineT
    by_cases e : j = k
    · subst e
      rw [if_pos hyes]
    · rw [if_neg (by rw [hno j (Nat.le_refl _) (by omega)]; decide)]
      exact ih (j + 1) (by omega) (by omega) (fun i h3 h4 => hno i (by omega) h4)
theorem Hd.at_nonce (h : Hd) : h.at h.nonce.toNat = h := by
  unfold Hd.at
  rw [UInt32.ofNat_toNat]
section
set_option maxRecDepth 10000
set_option maxHeartbeats 4000000
theorem mine_bad (h : Hd) (hbad : okB h.bits.toNat = false) (tr : Int) (w : World) : Calls Tryz.prog 34 #[.agg h.cells.toArray, .int .u64 tr] w fun e w' => e = .returned (.tuple #[.agg h.cells.toArray, .bool false]) ∧ Below w.heap.size w w' := by
  have s1 : (w.alloc (.cells h.cells.toArray 48)).heap.size = w.heap.size + 1 := by simp
  have r1 := (Below.heap_alloc _ (.cells zHd.cells.toArray 48) _ (lt_heap (heap_alloc_last w (.cells h.cells.toArray 48)))).trans (heap_alloc_last w (.cells h.cells.toArray 48))
  have r2 := heap_alloc_last (w.alloc (.cells h.cells.toArray 48)) (.cells zHd.cells.toArray 48)
  have b1 := ((Below.refl w.heap.size w).alloc (Nat.le_refl _) (.cells h.cells.toArray 48)).alloc (by rw [s1]; omega) (.cells zHd.cells.toArray 48)
  rw [s1] at r2
  have B1 := hide b1
  have R1 := hide r1
  have R2 := hide r2
  have CZ := hide (And.intro h.size h.all)
  have HX := hide (fun W => expand_no h.bits.toNat h.bits.toNat_lt hbad W)
  have c1 : ((w.alloc (.cells h.cells.toArray 48)).alloc (.cells zHd.cells.toArray 48)).cell? ⟨w.heap.size, 66, none⟩ = some (.int .u32 (h.bits.toNat : Int)) := by
    have q1 := h.bits0 (rowAt _ r1)
    rwa [Nat.zero_add] at q1
  clear b1 r1 r2 hbad
  generalize h.bits.toNat = NB at *
  go_enter Tryz.func34, Tryz.ntmps34
  go_upto_region 1 with ((with_reducible refine at_list ?_); first | refine wpList_boxA rfl _ rfl h.cells.toArray rfl ?_ | refine wpList_allocA AHd rfl rfl ?_)
  try rw [s1]
  clear s1
  generalize (w.alloc (.cells h.cells.toArray 48)).alloc (.cells zHd.cells.toArray 48) = W0 at *
  go_upto_region 2 with (first | (go_at_call 83; refine (HX.out _).mono ?_; rintro r W1 ⟨rfl, be⟩; have D1 := hide be; clear be) | ((with_reducible refine at_list ?_); first | refine wpList_allocA AW rfl rfl ?_ | refine wpList_store_newA AW rfl _ _ rfl _ rfl (wn 0) (wn_size _) (wn_one _) rfl rfl ?_))
  have D2 := hide (below_next D1.out ((Below.refl W1.heap.size W1).alloc (Nat.le_refl _) (.cells (wn 0) 51)))
  clear c1 D1
  generalize W1.alloc (.cells (wn 0) 51) = W2 at *
  have R1b := hide ((D2.out.block _ (lt_heap R1.out)).trans R1.out)
  have R2b := hide ((D2.out.block _ (lt_heap R2.out)).trans R2.out)
  go_wp2_with ((with_reducible refine at_list ?_); first | refine wpList_loadS AHd _ rfl w.heap.size rfl h.cells.toArray CZ.out.1 48 R1b.out (by rfl) ?_ | refine wpList_storeA AHd rfl _ _ rfl (w.heap.size + 1) h.cells.toArray CZ.out.1 CZ.out.2 rfl rfl zHd.cells.toArray zHd.size 48 R2b.out ?_)
  exact bodyPost_ret (v := .tuple #[.agg h.cells.toArray, .bool false]) (resA2K AHd Tryz.results34 _ _ (w.heap.size + 1) 48 _ CZ.out.1 rfl (setRow_heap _ _ _ _ _ _ R2b.out) _ rfl) rfl ⟨rfl, below_setRow (below_next B1.out D2.out) (by omega) _⟩
theorem mine_good (h : Hd) (hok : okB h.bits.toNat = true) (tr : Nat) (htr : tr ≤ 4294967296) (w : World) (hK : Kg w) : Calls Tryz.prog 34 #[.agg h.cells.toArray, .int .u64 (tr : Int)] w fun e w' => e = .returned (.tuple #[.agg (mineH h tr).1.cells.toArray, .bool (mineH h tr).2]) ∧ Below w.heap.size w w' := by
  have s1 : (w.alloc (.cells h.cells.toArray 48)).heap.size = w.heap.size + 1 := by simp
  have r1 := (Below.heap_alloc _ (.cells zHd.cells.toArray 48) _ (lt_heap (heap_alloc_last w (.cells h.cells.toArray 48)))).trans (heap_alloc_last w (.cells h.cells.toArray 48))
  have r2 := heap_alloc_last (w.alloc (.cells h.cells.toArray 48)) (.cells zHd.cells.toArray 48)
  have b1 := ((Below.refl w.heap.size w).alloc (Nat.le_refl _) (.cells h.cells.toArray 48)).alloc (by rw [s1]; omega) (.cells zHd.cells.toArray 48)
  rw [s1] at r2
  have B1 := hide b1
  have R1 := hide r1
  have R2 := hide r2
  have KW := hide hK.lt
  have KS := hide (hK.next b1)
  have CZ := hide h.size
  have H0 : Hid (h.at h.nonce.toNat = h) := h.at_nonce
  have ME : Hid (mineH h tr = mineT h (mnE h tr - h.nonce.toNat) h.nonce.toNat) := if_pos hok
  obtain ⟨n0, hn0⟩ : ∃ n0, n0 = h.nonce.toNat := ⟨_, rfl⟩
  have n0l : n0 < 4294967296 := by rw [hn0]; exact h.nonce.toNat_lt
  have HX := hide (fun W => expand_yes h.bits.toNat h.bits.toNat_lt hok W)
  have HH := hide (fun W => head_any h W)
  have HN := hide (fun W => new_any W)
  have HCUT := hide h.cut
  have FL := hide h.front_len
  have TZ : (txt h.bytes).size = 80 := by rw [txt_sz, h.bytes_len]
  have HI : Hid (∀ (j : Nat) (hj : j < 4294967296) (W : World) (bf : Nat), Kg W → Hat W bf h.front → Calls Tryz.prog 86 #[.pointer (some ⟨bf, 0, none⟩), .int .u32 (j : Int)] W fun e w' => e = .returned (.agg (hc (h.at j).id)) ∧ Below W.heap.size W w') := fun j hj W bf k hh => by
    rw [h.at_id j hj]
    exact idBehind_any bf h.front j hj W k (by rw [h.front_len]; omega) hh
  have HM : Hid (∀ (j : Nat) (W : World), Calls Tryz.prog 66 #[.agg (hc (h.at j).id), .int .u32 (h.bits.toNat : Int)] W fun e w' => e = .returned (.bool (h.at j).meets) ∧ Below W.heap.size W w') := fun j W => meets_any (h.at j).id (h.at j).id_len h.bits.toNat h.bits.toNat_lt W
  have RC : Hid (∀ (W : World) (g : Nat), W.heap[g]? = some (.cells h.cells.toArray 48 (0, 0)) → W.cell? ⟨g, 66, none⟩ = some (.int .u32 (h.bits.toNat : Int)) ∧ W.cell? ⟨g, 67, none⟩ = some (.int .u32 (n0 : Int))) := fun W g e => by
    have q1 := h.bits0 (rowAt _ e)
    have q2 := h.nonce0 (rowAt _ e)
    rw [Nat.zero_add] at q1 q2
    rw [← hn0] at q2
    exact ⟨q1, q2⟩
  have c1 := (RC.out _ _ R1.out).1
  have EE : Hid (∀ (q : Decidable ((4294967296 : Int) < (n0 : Int) + (tr : Int))), @ite Int ((4294967296 : Int) < (n0 : Int) + (tr : Int)) q (4294967296 : Int) ((n0 : Int) + (tr : Int)) = (mnE h tr : Int)) := fun q => by
    unfold mnE
    rw [← hn0]
    split <;> omega
  have E1 : min (tr : Int) 4294967296 = (tr : Int) := by omega
  have NE : n0 ≤ mnE h tr ∧ mnE h tr ≤ 4294967296 := by
    unfold mnE
    rw [← hn0]
    omega
  rw [← hn0] at H0 ME
  have MS0 := hide hn0
  clear b1 r1 r2 hK hok hn0
  generalize mnE h tr = BE at *
  generalize tgt h.bits.toNat = TG at *
  generalize hB : h.bits.toNat = NB at *
  have HA := hide (fun j => (h.at j).size)
  have HAl := hide (fun j => (h.at j).all)
  go_enter Tryz.func34, Tryz.ntmps34
  go_upto_region 1 with ((with_reducible refine at_list ?_); first | refine wpList_boxA rfl _ rfl h.cells.toArray rfl ?_ | refine wpList_allocA AHd rfl rfl ?_)
  try rw [s1]
  clear s1
  generalize (w.alloc (.cells h.cells.toArray 48)).alloc (.cells zHd.cells.toArray 48) = W0 at *
  go_upto_region 2 with (first | (go_at_call 83; refine (HX.out _).mono ?_; rintro r W1 ⟨rfl, be⟩; have D1 := hide be; clear be) | ((with_reducible refine at_list ?_); first | refine wpList_allocA AW rfl rfl ?_ | refine wpList_store_newA AW rfl _ _ rfl _ rfl (wn TG) (wn_size _) (wn_one _) rfl rfl ?_))
  have D2 := hide (below_next D1.out ((Below.refl W1.heap.size W1).alloc (Nat.le_refl _) (.cells (wn TG) 51)))
  clear c1 D1
  generalize W1.alloc (.cells (wn TG) 51) = W2 at *
  generalize W1.heap.size = g6 at *
  go_upto_region 4 with fail
  go_upto_region 5 with (go_at_call 84; refine (HN.out _).mono ?_; rintro r W3 ⟨bf, rfl, h3, be, hb3⟩; have H3 := hide h3; have G3 := hide (Nat.le_trans D2.out.size hb3); have D3 := hide (below_next D2.out be); clear h3 be hb3)
  have R3 := hide ((D3.out.block _ (lt_heap R1.out)).trans R1.out)
  go_upto_region 6 with (first | (go_at_call 82; refine (HH.out _).mono ?_; rintro r W4 ⟨rfl, be⟩; have D4 := hide (below_next D3.out be); have H4 := hide (H3.out.below be); clear be) | (go_at_call 85; refine (write_any bf [] ((txt h.bytes).extract 0 76) _ (KS.out.next D4.out) (by have := G3.out; have := KS.out.lt; omega) (by simp; omega) H4.out).mono ?_; rintro r W5 ⟨rfl, h5, f5⟩; have H5 := hide h5; have D5 := hide (D4.out.trans (f5.to_below G3.out D4.out.size)); clear h5 f5) | ((with_reducible refine at_list ?_); refine wpList_loadS AHd _ rfl w.heap.size rfl h.cells.toArray CZ.out 48 R3.out (by rfl) ?_))
  have R5 := hide ((D5.out.block _ (lt_heap R1.out)).trans R1.out)
  have R5b := hide ((D5.out.block _ (lt_heap R2.out)).trans R2.out)
  rw [List.nil_append, HCUT.out] at H5
  clear H3 H4 R3 D3 D4 D2 HX HH HN HCUT FL TZ
  go_upto_region 7 with ((with_reducible refine at_list ?_); first | refine wpList_loadS AHd _ rfl w.heap.size rfl h.cells.toArray CZ.out 48 R5.out (by rfl) ?_ | refine wpList_allocA AHd rfl rfl ?_ | refine wpList_store_newA AHd rfl _ _ rfl _ rfl h.cells.toArray CZ.out (h.all) rfl rfl ?_)
  have J0 : Hid (Mj w (W5.alloc (.cells h.cells.toArray 48)) h w.heap.size (w.heap.size + 1) W5.heap.size bf n0) := by
    have bb := (Below.refl W5.heap.size W5).alloc (Nat.le_refl _) (.cells h.cells.toArray 48)
    have l1 := lt_heap R5.out
    have l2 := lt_heap R5b.out
    have l3 := H5.out.lt
    refine ⟨(bb.block _ l1).trans R5.out, (bb.block _ l2).trans R5b.out, ?_, H5.out.below bb, below_next B1.out (below_next D5.out bb), KS.out.next (below_next D5.out bb), by omega, by omega, by omega, by omega, by omega⟩
    rw [H0.out]
    exact heap_alloc_last _ _
  clear R5 R5b H5 D5
  generalize W5.alloc (.cells h.cells.toArray 48) = W6 at *
  generalize W5.heap.size = g9 at *
  have c2 := (RC.out _ _ J0.out.r2).2
  go_upto_region 8 with fail
  rw [EE.out]
  go_upto_region 9 with fail
  clear c2 EE E1
  go_loopw [11] (fun i wr => ∃ j : Nat, n0 ≤ j ∧ j ≤ BE ∧ i = .int .u64 (j : Int) ∧ Hid (mineT h (BE - n0) n0 = mineT h (BE - j) j) ∧ ∃ p : Nat, Hid (Mj w wr h w.heap.size (w.heap.size + 1) g9 bf p)) (fun i _ => (BE + 1 - intOf i).toNat)
  case atStart => exact ⟨n0, Nat.le_refl _, NE.1, rfl, rfl, n0, J0⟩
  case round =>
    clear J0
    obtain ⟨j, hj0, hj, rfl, MT, p, J⟩ := hrel
    have hb0 : BE ≤ 4294967296 := NE.2
    by_cases hlt : j < BE
    · have hj2 := hide (show j < 4294967296 by omega)
      have h1 : decide ((j : Int) < (BE : Int)) = true := decide_eq_true (by omega)
      have h1' : (j : Int) < (BE : Int) := by omega
      have e1 : IntKind.u32.wrap (j : Int) = (j : Int) := by rw [IntKind.wrap_u32]; omega
      have e2 : IntKind.u64.wrap ((j : Int) + 1) = (j : Int) + 1 := wrapu _ (by omega) (by omega)
      have MS := hide (show ((BE : Int) + 1 - ((j : Int) + 1)).toNat < ((BE : Int) + 1 - (j : Int)).toNat by omega)
      have MT2 : Hid (mineT h (BE - n0) n0 = if (h.at j).meets = true then (h.at j, true) else mineT h (BE - (j + 1)) (j + 1)) := by
        show _ = _
        rw [MT.out, show BE - j = (BE - (j + 1)) + 1 by omega]
        rfl
      have JK := hide (And.intro hj0 hlt)
      clear hj hj0 hlt MT hb0 NE
      have J1 := hide (J.out.set j hj2.out KW.out)
      have c4 : wr.cell? ⟨g9, 67, none⟩ = some (.int .u32 ((h.at p).nonce.toNat : Int)) := by
        have q2 := (h.at p).nonce0 (rowAt _ J.out.r9)
        rwa [Nat.zero_add] at q2
      have f4 := frozen_of_row wr g9 67 _ _ J.out.r9
      clear J
      go_upto_region 12 with fail
      clear c4 f4 h1 h1' e1
      generalize wr.setCell ⟨g9, 67, none⟩ (.int .u32 (j : Int)) = W7 at *
      have CN : Hid (∀ W, Below W7.heap.size W7 W → W.cell? ⟨g9, 67, none⟩ = some (.int .u32 (j : Int)) ∧ W.cell? ⟨w.heap.size, 66, none⟩ = some (.int .u32 (NB : Int))) := fun W b => by
        have q := J1.out.next b
        have q2 := (h.at j).nonce0 (rowAt _ q.r9)
        rw [Nat.zero_add, show (h.at j).nonce = UInt32.ofNat j from rfl, ofNat_lt j hj2.out] at q2
        exact ⟨q2, (RC.out _ _ q.r2).1⟩
      have DV1 := hide ((Below.refl W7.heap.size W7).drew)
      have HIj := hide (fun W => HI.out j hj2.out W bf)
      have HMj := hide (fun W => HM.out j W)
      generalize hV : (h.at j).meets = V at *
      generalize (h.at j).id = ID at *
      clear hV
      refine wp_region_held_drew (S := fun W => Below W7.heap.size W7 W) (by kernel_rfl) DV1.out (fun hH => ?_)
      generalize hWd : W7.drew = V1 at *
      clear hWd
      refine wpAnyH_take (i := 0) (v := (.pointer (some ⟨bf, 0, none⟩))) rfl (by kernel_rfl) (by kernel_rfl) (by kernel_rfl) (fun _ _ _ h => h) (yl_move (by rfl) _ (by rfl) _ (by rfl)) hH ?_
      change wpAnyH _ _ _ _ _ _ _ (Act.put _ (some 46) _) _
      simp only [Act.put, List.setIfInBounds_toArray, List.set_cons_zero, List.set_cons_succ]
      refine wpAnyH_take (i := 1) (v := (.pointer (some ⟨g9, 67, none⟩))) rfl (by kernel_rfl) (by kernel_rfl) (by kernel_rfl) (fun _ _ _ h => h) (.inl ⟨by rfl, fun W _ => by go_simp⟩) hH ?_
      change wpAnyH _ _ _ _ _ _ _ (Act.put _ (some 47) _) _
      simp only [Act.put, List.setIfInBounds_toArray, List.set_cons_zero, List.set_cons_succ]
      refine wpAnyH_take (i := 2) (v := (.int .u32 (j : Int))) rfl (by kernel_rfl) (by kernel_rfl) (by kernel_rfl) (fun _ _ _ h => h) (.inl ⟨by rfl, fun W hS => by have c4 := (CN.out W hS).1; go_simp⟩) hH ?_
      change wpAnyH _ _ _ _ _ _ _ (Act.put _ (some 48) _) _
      simp only [Act.put, List.setIfInBounds_toArray, List.set_cons_zero, List.set_cons_succ]
      refine wpAnyH_take (i := 4) (v := (.pointer (some ⟨w.heap.size, 66, none⟩))) rfl (by kernel_rfl) (by kernel_rfl) (by kernel_rfl) (fun _ _ _ h => h) (.inl ⟨by rfl, fun W _ => by go_simp⟩) hH ?_
      change wpAnyH _ _ _ _ _ _ _ (Act.put _ (some 50) _) _
      simp only [Act.put, List.setIfInBounds_toArray, List.set_cons_zero, List.set_cons_succ]
      refine wpAnyH_take (i := 5) (v := (.int .u32 (NB : Int))) rfl (by kernel_rfl) (by kernel_rfl) (by kernel_rfl) (fun _ _ _ h => h) (.inl ⟨by rfl, fun W hS => by have c4 := (CN.out W hS).2; go_simp⟩) hH ?_
      change wpAnyH _ _ _ _ _ _ _ (Act.put _ (some 51) _) _
      simp only [Act.put, List.setIfInBounds_toArray, List.set_cons_zero, List.set_cons_succ]
      refine wpAnyH_ready (rs := [3]) (by kernel_rfl) (by simp) (AllReadyH.cons rfl (fun K1 hK1 => ?_) AllReadyH.nil)
      go_simp
      refine (HIj.out V1 (J1.out.next DV1.out).k (J1.out.next DV1.out).hat).mono ?_
      rintro r V2 ⟨rfl, be⟩
      have DV2 := hide (below_next DV1.out be)
      clear be
      refine hK1.out _ _ DV2.out (fun hH => ?_)
      clear hK1
      refine wpAnyH_ready (rs := [6]) (by kernel_rfl) (by simp) (AllReadyH.cons rfl (fun K1 hK1 => ?_) AllReadyH.nil)
      go_simp
      refine (HMj.out V2).mono ?_
      rintro r V3 ⟨rfl, be⟩
      have DV3 := hide (below_next DV2.out be)
      clear be
      refine hK1.out _ _ DV3.out (fun hH => ?_)
      clear hK1
      refine wpAnyH_done (by kernel_rfl) ?_ _
      clear hH
      have J3 := hide (J1.out.next DV3.out)
      clear CN HIj HMj DV1 DV2 DV3 J1
      cases V
      · have MT3 : Hid (mineT h (BE - n0) n0 = mineT h (BE - (j + 1)) (j + 1)) := by
          have := MT2.out
          rwa [if_neg (by decide)] at this
        clear MT2
        go_wp2
        exact ⟨⟨j + 1, Nat.le_succ_of_le JK.out.1, JK.out.2, by go_num, MT3, j, J3⟩, by simpa [intOf] using MS.out⟩
      · have MT3 : Hid (mineH h tr = (h.at j, true)) := by
          have := MT2.out
          rw [if_pos rfl] at this
          exact ME.out.trans this
        have R9 := hide J3.out.r9
        have R4 := hide J3.out.r4
        have HS9 := hide (HA.out j)
        have HL9 := hide (HAl.out j)
        generalize hCJ : (h.at j).cells.toArray = CJ at *
        have HCJ := hide hCJ
        clear hCJ MT2
        go_wp2_with ((with_reducible refine at_list ?_); first | refine wpList_loadS AHd _ rfl g9 rfl CJ HS9.out 48 R9.out (by rfl) ?_ | refine wpList_storeA AHd rfl _ _ rfl (w.heap.size + 1) CJ HS9.out HL9.out rfl rfl zHd.cells.toArray zHd.size 48 R4.out ?_)
        exact bodyPost_ret (v := .tuple #[.agg CJ, .bool true]) (resA2K AHd Tryz.results34 _ _ (w.heap.size + 1) 48 _ HS9.out rfl (setRow_heap _ _ _ _ _ _ R4.out) _ rfl) rfl ⟨by rw [MT3.out, ← HCJ.out], below_setRow J3.out.bel (by omega) _⟩
    · have e9 : j = BE := by omega
      subst e9
      have MT3 : Hid (mineH h tr = (h, false)) := by
        have := ME.out.trans MT.out
        rw [Nat.sub_self] at this
        exact this
      have h1 : ¬ ((j : Int) < (j : Int)) := by omega
      have R2 := hide J.out.r2
      have R4 := hide J.out.r4
      have HL2 := hide h.all
      clear hj hj0 hlt MT hb0 NE
      generalize hCJ : h.cells.toArray = CJ at *
      have HCJ := hide hCJ
      clear hCJ
      go_wp2_with ((with_reducible refine at_list ?_); first | refine wpList_loadS AHd _ rfl w.heap.size rfl CJ CZ.out 48 R2.out (by rfl) ?_ | refine wpList_storeA AHd rfl _ _ rfl (w.heap.size + 1) CJ CZ.out HL2.out rfl rfl zHd.cells.toArray zHd.size 48 R4.out ?_)
      exact bodyPost_ret (v := .tuple #[.agg CJ, .bool false]) (resA2K AHd Tryz.results34 _ _ (w.heap.size + 1) 48 _ CZ.out rfl (setRow_heap _ _ _ _ _ _ R4.out) _ rfl) rfl ⟨by rw [MT3.out, ← HCJ.out], below_setRow J.out.bel (by omega) _⟩
/-- Mine, whatever the header. -/
theorem mine_any (h : Hd) (tr : Nat) (htr : tr ≤ 4294967296) (w : World) (hK : Kg w) : Calls Tryz.prog 34 #[.agg h.cells.toArray, .int .u64 (tr : Int)] w fun e w' => e = .returned (.tuple #[.agg (mineH h tr).1.cells.toArray, .bool (mineH h tr).2]) ∧ Below w.heap.size w w' := by
  cases hok : okB h.bits.toNat
  · have e : mineH h tr = (h, false) := if_neg (by rw [hok]; decide)
    rw [e]
    exact mine_bad h hok (tr : Int) w
  · exact mine_good h hok tr htr w hK
end
end Go.Proofs.YthhojpplbhnnfaaGreatDoor
