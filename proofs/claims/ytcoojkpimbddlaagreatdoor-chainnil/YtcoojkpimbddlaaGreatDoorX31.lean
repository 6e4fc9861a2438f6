/- A tree: a header that is new and may stand is added: its contract. block.Long: its contract. tx.hasTwin: its contract. tx.checkBaseKey and tx.Check: their contracts. tx.Check: its contract. -/
import Derived.Test.YtcoojkpimbddlaaGreatDoorP0
import Derived.Test.YtcoojkpimbddlaaGreatDoorX30
import Derived.Test.YtcoojkpimbddlaaGreatDoorX23
import Derived.Test.YtcoojkpimbddlaaGreatDoorX17
import Derived.Test.YtcoojkpimbddlaaGreatDoorX25
namespace Go.Proofs.YtcoojkpimbddlaaGreatDoor
open Go.RowKit
open Go.Deep
open Go.Maps
set_option linter.unusedVariables false
set_option linter.unusedSimpArgs false
section
set_option maxRecDepth 10000
set_option maxHeartbeats 8000000
theorem add_fr {B w : World} {gt gm n : Nat} {D : DataW Unit} {ve : Value} {L : List Tno} {tu be bh : Nat} (h : Tm4 B w gt gm n D ve L tu be bh) (hK : Kg w) (x : Hd) (now : Nat) (c : Int) (hat1 : D.atKey (.string x.id) (.lit (.int .i64 0)) = .lit (.int .i64 c)) (hh1 : Maps.has D (.string x.id) = false) (hmt : x.meets = true) (k : Nat) (hat2 : D.atKey (.string x.prev) (.lit (.int .i64 0)) = .lit (.int .i64 (k : Int))) (hh2 : Maps.has D (.string x.prev) = true) (Q : World → Prop)
    (HF : ∀ W, Tm4 B W gt gm n D ve L tu be bh → Calls Tryz.prog 120 #[.pointer (some ⟨gt, 0, none⟩), .agg x.cells.toArray, .int .i64 (k : Int), .int .u32 (now : Int)] W fun e w' => e = .returned (.int .i64 0) ∧ Below W.heap.size W w')
    (HH : ∀ W, Tm4 B W gt gm n D ve L tu be bh → Below w.heap.size w W → Calls Tryz.prog 121 #[.pointer (some ⟨gt, 0, none⟩), .agg (hc x.id), .agg x.cells.toArray, .int .i64 (k : Int)] W fun e w' => e = .returned (.tuple #[]) ∧ Q w') :
    Calls Tryz.prog 53 #[.pointer (some ⟨gt, 0, none⟩), .agg x.cells.toArray, .int .u32 (now : Int)] w fun e w' => e = .returned (.tuple #[.bool true, .int .i64 0]) ∧ Q w' := by
  have r4 := heap_alloc_last w (.cells x.cells.toArray 48)
  have R4 := hide r4
  have b1 := (Below.refl w.heap.size w).alloc (Nat.le_refl _) (.cells x.cells.toArray 48)
  have X1 := hide (h.next b1)
  have F1 := hide b1
  have KS : Hid (∀ W, Below (w.alloc (.cells x.cells.toArray 48)).heap.size (w.alloc (.cells x.cells.toArray 48)) W → Kg W) := fun W b => hK.next (below_next b1 b)
  have CZ := hide (And.intro (And.intro (show (hc x.id).size = 32 by rw [hc_size, x.id_len]) (hc_one x.id)) (And.intro x.size x.all))
  have HI : Hid (∀ W, Kg W → Calls Tryz.prog 46 #[.agg x.cells.toArray] W fun e w' => e = .returned (.agg (hc x.id)) ∧ Below W.heap.size W w') := fun W q => hid_any x W q
  have HM : Hid (∀ W, Calls Tryz.prog 118 #[.agg (hc x.id), .int .u32 (x.bits.toNat : Int)] W fun e w' => e = .returned (.bool true) ∧ Below W.heap.size W w') := fun W => by
    have := meets_any x.id x.id_len x.bits.toNat x.bits.toNat_lt W
    rw [show mt x.id x.bits.toNat = true from hmt] at this
    exact this
  have L1 : Hid (∀ W, Tm4 B W gt gm n D ve L tu be bh → (Instr.lookup 118 (.map (some gm)) (.agg (hc x.id)) true).run Tryz.prog W = .ok (.tuple #[.int .i64 c, .bool false]) W) := fun W q => by
    have := look14 q.map x.id x.id_len c hat1
    rw [hh1] at this
    exact this
  have L2 : Hid (∀ W, Tm4 B W gt gm n D ve L tu be bh → (Instr.lookup 118 (.map (some gm)) (.agg (hc x.prev)) true).run Tryz.prog W = .ok (.tuple #[.int .i64 (k : Int), .bool true]) W) := fun W q => by
    have := look14 q.map x.prev x.hp k hat2
    rw [hh2] at this
    exact this
  have CB : Hid (∀ (W : World) (g : Nat), W.heap[g]? = some (.cells x.cells.toArray 48 (0, 0)) → W.cell? ⟨g, 66, none⟩ = some (.int .u32 (x.bits.toNat : Int)) ∧ W.rangeAt g 1 (cellsL x.prev)) := fun W g e => by
    have q1 := x.bits0 (rowAt _ e)
    have q2 := x.prevR (rowAt _ e)
    rw [Nat.zero_add] at q1 q2
    exact ⟨q1, q2⟩
  have HP := hide x.hp
  have HFt := hide HF
  have HHg := hide HH
  clear r4 b1 h hK hat1 hh1 hmt hat2 hh2 HF HH
  generalize hc x.id = C at *
  generalize x.bits.toNat = NB at *
  generalize x.prev = PV at *
  generalize x.cells.toArray = CX at *
  go_enter Tryz.func53, Tryz.ntmps53
  go_upto_region 3 with ((with_reducible refine at_list ?_); refine wpList_boxA rfl _ rfl CX rfl ?_)
  generalize w.alloc (.cells CX 48) = W0 at *
  go_upto_region 4 with (first | (go_at_call 46; refine (HI.out _ (KS.out _ (Below.refl _ _))).mono ?_; rintro e W1 ⟨rfl, be⟩; have D1 := hide be; clear be) | ((with_reducible refine at_list ?_); first | refine wpList_loadS AHd _ rfl w.heap.size rfl CX CZ.out.2.1 48 R4.out (by rfl) ?_ | refine wpList_allocA A25 rfl rfl ?_ | refine wpList_store_newA A25 rfl _ _ rfl _ rfl C CZ.out.1.1 CZ.out.1.2 rfl rfl ?_))
  have b2 := (Below.refl W1.heap.size W1).alloc (Nat.le_refl _) (.cells C 46)
  have D2 := hide (below_next D1.out b2)
  have X2 := hide (X1.out.next D2.out)
  have F2 := hide (below_next F1.out D2.out)
  have R8 := hide (heap_alloc_last W1 (.cells C 46))
  have R4b := hide ((D2.out.block _ (lt_heap R4.out)).trans R4.out)
  clear b2 D1 X1 R4 KS HI
  generalize W1.alloc (.cells C 46) = W2 at *
  generalize W1.heap.size = g8 at *
  have DV := hide (Below.refl W2.heap.size W2).drew
  refine wp_region_held_drew (S := fun W => Below W2.heap.size W2 W) (by kernel_rfl) DV.out (fun hH => ?_)
  generalize W2.drew = V1 at *
  refine wt (i := 0) (v := (.pointer (some ⟨gt, 0, none⟩))) rfl (yl_move (by rfl) _ (by rfl) _ (by rfl)) hH ?_
  change wpAnyH _ _ _ _ _ _ _ (Act.put _ (some 19) _) _
  simp only [Act.put, s0, s1, s2]
  refine wt (i := 1) (v := (.pointer (some ⟨gt, 0, none⟩))) rfl (.inl ⟨by rfl, fun W _ => by go_simp⟩) hH ?_
  change wpAnyH _ _ _ _ _ _ _ (Act.put _ (some 20) _) _
  simp only [Act.put, s0, s1, s2]
  refine wt (i := 2) (v := (.pointer (some ⟨gt, 0, none⟩))) rfl (.inl ⟨by rfl, fun W _ => by go_simp⟩) hH ?_
  change wpAnyH _ _ _ _ _ _ _ (Act.put _ (some 21) _) _
  simp only [Act.put, s0, s1, s2]
  refine wt (i := 3) (v := (.map (some gm))) rfl (.inl ⟨by rfl, fun W hS => by have c4 := (X2.out.next hS).cells.1; go_simp⟩) hH ?_
  change wpAnyH _ _ _ _ _ _ _ (Act.put _ (some 22) _) _
  simp only [Act.put, s0, s1, s2]
  refine wt (i := 4) (v := (.agg C)) rfl (yl_load (by rfl) _ (by rfl) _ C (by rfl) (fun W hS => ld_row A25 CZ.out.1.1 ((hS.block _ (lt_heap R8.out)).trans R8.out))) hH ?_
  change wpAnyH _ _ _ _ _ _ _ (Act.put _ (some 23) _) _
  simp only [Act.put, s0, s1, s2]
  refine wt (i := 5) (v := (.tuple #[.int .i64 c, .bool false])) rfl (yl_look14 (by rfl) _ _ _ (by rfl) _ _ (by rfl) (by rfl) _ (fun W hS => L1.out W (X2.out.next hS))) hH ?_
  change wpAnyH _ _ _ _ _ _ _ (Act.put _ (some 24) _) _
  simp only [Act.put, s0, s1, s2]
  refine wt (i := 6) (v := (.tuple #[.int .i64 c, .bool false])) rfl (yl_move (by rfl) _ (by rfl) _ (by rfl)) hH ?_
  change wpAnyH _ _ _ _ _ _ _ (Act.put _ (some 18) _) _
  simp only [Act.put, s0, s1, s2]
  refine wt (i := 7) (v := (.int .i64 c)) rfl (.inl ⟨by rfl, fun W _ => by go_simp⟩) hH ?_
  change wpAnyH _ _ _ _ _ _ _ (Act.put _ (some 25) _) _
  simp only [Act.put, s0, s1, s2]
  refine wt (i := 8) (v := (.bool false)) rfl (.inl ⟨by rfl, fun W _ => by go_simp⟩) hH ?_
  change wpAnyH _ _ _ _ _ _ _ (Act.put _ (some 26) _) _
  simp only [Act.put, s0, s1, s2]
  refine wt (i := 9) (v := (.int .i64 c)) rfl (.inl ⟨by rfl, fun W _ => by go_simp⟩) hH ?_
  change wpAnyH _ _ _ _ _ _ _ (Act.put _ (some 9) _) _
  simp only [Act.put, s0, s1, s2]
  refine wt (i := 10) (v := (.bool false)) rfl (.inl ⟨by rfl, fun W _ => by go_simp⟩) hH ?_
  change wpAnyH _ _ _ _ _ _ _ (Act.put _ (some 10) _) _
  simp only [Act.put, s0, s1, s2]
  refine wpAnyH_done (by kernel_rfl) ?_ _
  clear hH
  have R8b := hide ((DV.out.block _ (lt_heap R8.out)).trans R8.out)
  have R4c := hide ((DV.out.block _ (lt_heap R4b.out)).trans R4b.out)
  have X3 := hide (X2.out.next DV.out)
  have F3 := hide (below_next F2.out DV.out)
  have c66 := (CB.out _ _ R4c.out).1
  clear R8 R4b X2 DV L1
  go_upto_region 9 with (first | (go_at_call 118; refine (HM.out _).mono ?_; rintro e W4 ⟨rfl, be⟩; have D4 := hide be; clear be) | ((with_reducible refine at_list ?_); refine wpList_loadS A25 _ rfl g8 rfl C CZ.out.1.1 46 R8b.out (by rfl) ?_))
  have X4 := hide (X3.out.next D4.out)
  have F4 := hide (below_next F3.out D4.out)
  have R8c := hide ((D4.out.block _ (lt_heap R8b.out)).trans R8b.out)
  have R4d := hide ((D4.out.block _ (lt_heap R4c.out)).trans R4c.out)
  clear c66 R8b R4c X3 D4
  have DV := hide (Below.refl W4.heap.size W4).drew
  refine wp_region_held_drew (S := fun W => Below W4.heap.size W4 W) (by kernel_rfl) DV.out (fun hH => ?_)
  generalize W4.drew = V4 at *
  refine wt (i := 0) (v := (.pointer (some ⟨gt, 0, none⟩))) rfl (yl_move (by rfl) _ (by rfl) _ (by rfl)) hH ?_
  change wpAnyH _ _ _ _ _ _ _ (Act.put _ (some 34) _) _
  simp only [Act.put, s0, s1, s2]
  refine wt (i := 1) (v := (.pointer (some ⟨gt, 0, none⟩))) rfl (.inl ⟨by rfl, fun W _ => by go_simp⟩) hH ?_
  change wpAnyH _ _ _ _ _ _ _ (Act.put _ (some 35) _) _
  simp only [Act.put, s0, s1, s2]
  refine wt (i := 2) (v := (.pointer (some ⟨gt, 0, none⟩))) rfl (.inl ⟨by rfl, fun W _ => by go_simp⟩) hH ?_
  change wpAnyH _ _ _ _ _ _ _ (Act.put _ (some 36) _) _
  simp only [Act.put, s0, s1, s2]
  refine wt (i := 3) (v := (.map (some gm))) rfl (.inl ⟨by rfl, fun W hS => by have c4 := (X4.out.next hS).cells.1; go_simp⟩) hH ?_
  change wpAnyH _ _ _ _ _ _ _ (Act.put _ (some 37) _) _
  simp only [Act.put, s0, s1, s2]
  refine wt (i := 4) (v := (.pointer (some ⟨w.heap.size, 1, none⟩))) rfl (.inl ⟨by rfl, fun W _ => by go_simp⟩) hH ?_
  change wpAnyH _ _ _ _ _ _ _ (Act.put _ (some 38) _) _
  simp only [Act.put, s0, s1, s2]
  refine wt (i := 5) (v := (.agg (hc PV))) rfl (yl_load (by rfl) _ (by rfl) _ (hc PV) (by rfl) (fun W hS => ld25_14 HP.out (CB.out W _ ((hS.block _ (lt_heap R4d.out)).trans R4d.out)).2)) hH ?_
  change wpAnyH _ _ _ _ _ _ _ (Act.put _ (some 39) _) _
  simp only [Act.put, s0, s1, s2]
  refine wt (i := 6) (v := (.tuple #[.int .i64 (k : Int), .bool true])) rfl (yl_look14 (by rfl) _ _ _ (by rfl) _ _ (by rfl) (by rfl) _ (fun W hS => L2.out W (X4.out.next hS))) hH ?_
  change wpAnyH _ _ _ _ _ _ _ (Act.put _ (some 40) _) _
  simp only [Act.put, s0, s1, s2]
  refine wt (i := 7) (v := (.tuple #[.int .i64 (k : Int), .bool true])) rfl (yl_move (by rfl) _ (by rfl) _ (by rfl)) hH ?_
  change wpAnyH _ _ _ _ _ _ _ (Act.put _ (some 33) _) _
  simp only [Act.put, s0, s1, s2]
  refine wt (i := 8) (v := (.int .i64 (k : Int))) rfl (.inl ⟨by rfl, fun W _ => by go_simp⟩) hH ?_
  change wpAnyH _ _ _ _ _ _ _ (Act.put _ (some 41) _) _
  simp only [Act.put, s0, s1, s2]
  refine wt (i := 9) (v := (.bool true)) rfl (.inl ⟨by rfl, fun W _ => by go_simp⟩) hH ?_
  change wpAnyH _ _ _ _ _ _ _ (Act.put _ (some 42) _) _
  simp only [Act.put, s0, s1, s2]
  refine wt (i := 10) (v := (.int .i64 (k : Int))) rfl (.inl ⟨by rfl, fun W _ => by go_simp⟩) hH ?_
  change wpAnyH _ _ _ _ _ _ _ (Act.put _ (some 11) _) _
  simp only [Act.put, s0, s1, s2]
  refine wt (i := 11) (v := (.bool true)) rfl (.inl ⟨by rfl, fun W _ => by go_simp⟩) hH ?_
  change wpAnyH _ _ _ _ _ _ _ (Act.put _ (some 12) _) _
  simp only [Act.put, s0, s1, s2]
  refine wpAnyH_done (by kernel_rfl) ?_ _
  clear hH
  have R8d := hide ((DV.out.block _ (lt_heap R8c.out)).trans R8c.out)
  have R4e := hide ((DV.out.block _ (lt_heap R4d.out)).trans R4d.out)
  have X5 := hide (X4.out.next DV.out)
  have F5 := hide (below_next F4.out DV.out)
  clear R8c R4d X4 DV L2 CB HM
  go_upto_region 13 with (first | (go_at_call 120; refine (HFt.out _ X5.out).mono ?_; rintro e W6 ⟨rfl, be⟩; have D6 := hide be; clear be) | ((with_reducible refine at_list ?_); refine wpList_loadS AHd _ rfl w.heap.size rfl CX CZ.out.2.1 48 R4e.out (by rfl) ?_))
  have R8e := hide ((D6.out.block _ (lt_heap R8d.out)).trans R8d.out)
  have R4f := hide ((D6.out.block _ (lt_heap R4e.out)).trans R4e.out)
  have X6 := hide (X5.out.next D6.out)
  have F6 := hide (below_next F5.out D6.out)
  clear R8d R4e X5 D6 HFt
  go_wp2_with (first | (go_at_call 121; refine (HHg.out _ X6.out F6.out).mono ?_; rintro e W7 ⟨rfl, q7⟩; have Q7 := hide q7; clear q7) | ((with_reducible refine at_list ?_); first | refine wpList_loadS A25 _ rfl g8 rfl C CZ.out.1.1 46 R8e.out (by rfl) ?_ | refine wpList_loadS AHd _ rfl w.heap.size rfl CX CZ.out.2.1 48 R4f.out (by rfl) ?_))
  go_ret2
  exact ⟨rfl, Q7.out⟩
end
end Go.Proofs.YtcoojkpimbddlaaGreatDoor
namespace Go.Proofs.YtcoojkpimbddlaaGreatDoor
open Go.RowKit
open Go.Deep
set_option linter.unusedVariables false
theorem bkB_len (h : Hd) (L : List Tq) : ((bkB h L).length : Int) = 80 + clong L.length + ((txsB L).length : Int) := by
  have h1 := countL_len L.length
  rw [bkB, List.length_append, List.length_append, h.bytes_len]
  omega
section
set_option maxRecDepth 10000
set_option maxHeartbeats 4000000
theorem long_any (h : Hd) (v : Value) (L : List Tq) (w : World) (hL : LQ w v L) (hz : (bkB h L).length ≤ 4611686018427387904) (hn : L.length < 4398046511104) : Calls Tryz.prog 82 #[.agg (bkA h v)] w fun e w' => e = .returned (.int .i64 ((bkB h L).length : Int)) ∧ Below w.heap.size w w' := by
  obtain ⟨ao, cap, rfl⟩ := hL.l.form
  have b1 := (Below.refl w.heap.size w).alloc (Nat.le_refl _) (.cells (bkA h (.slice ao L.length cap)) 62)
  have R1 := hide (heap_alloc_last w (.cells (bkA h (.slice ao L.length cap)) 62))
  have B1 := hide b1
  have HL := hide (hL.below b1)
  have HN := hide hn
  have BL := hide (bkB_len h L)
  have HZ := hide hz
  have CC := hide (And.intro (clong_pos (L.length : Int)) (clong_le (L.length : Int)))
  have HC : Hid (∀ W, Calls Tryz.prog 148 #[.int .u64 (L.length : Int)] W fun e w' => e = .returned (.int .i64 (clong L.length)) ∧ w' = W) := fun W => countLong_any _ W
  have eU : IntKind.u64.wrap (L.length : Int) = (L.length : Int) := wrapu _ (by omega) (by omega)
  have c1 : (w.alloc (.cells (bkA h (.slice ao L.length cap)) 62)).cell? ⟨w.heap.size, 68, none⟩ = some (.slice ao L.length cap) := bkA_txs R1.out
  have e0 : IntKind.i64.wrap (80 + clong L.length) = 80 + clong L.length := wrapI _ (by have := CC.out; omega) (by have := CC.out; omega)
  clear b1 hL hz hn
  generalize bkA h (.slice ao L.length cap) = C at *
  go_enter Tryz.func82, Tryz.ntmps82
  go_upto_region 1 with ((with_reducible refine at_list ?_); refine wpList_boxA rfl _ rfl C rfl ?_)
  generalize w.alloc (.cells C 62) = W0 at *
  go_upto_region 3 with (go_at_call 148; refine (HC.out _).mono ?_; rintro e W2 ⟨rfl, h9⟩; subst W2)
  clear c1 eU e0 HC
  go_loopw [3, 15] (fun s i wr => ∃ k : Nat, k ≤ L.length ∧ i = .int .i64 (k : Int) ∧ s = .int .i64 (80 + clong L.length + ((txsB (L.take k)).length : Int)) ∧ Hid (Below W0.heap.size W0 wr)) (fun _ i _ => (L.length - intOf i).toNat)
  case atStart => exact ⟨0, Nat.zero_le _, rfl, by simp [txsB], Below.refl _ _⟩
  case round =>
    obtain ⟨k, hk, rfl, rfl, J⟩ := hrel
    by_cases hlt : k < L.length
    · have h1 : (k : Int) < (L.length : Int) := by omega
      have h2 : (0 : Int) ≤ (k : Int) := by omega
      have hn := HN.out
      have e1 : IntKind.i64.wrap ((k : Int) + 1) = k + 1 := wrapI _ (by omega) (by omega)
      have KK := hide (And.intro (show k + 1 ≤ L.length by omega) (show ((L.length : Int) - ((k : Int) + 1)).toNat < ((L.length : Int) - (k : Int)).toNat by omega))
      obtain ⟨ga, oa, rfl⟩ := HL.out.l.base (by omega)
      have RG : Hid (wr.rangeAt ga (oa + k * 4) L[k].cells) := (HL.out.below J.out).l.range k hlt
      have CN := hide (fun W (b : Below W0.heap.size W0 W) => (HL.out.at k hlt).below b)
      have SN := congrArg List.length (txsB_next L k hlt)
      have SL := txsB_le L (k + 1)
      rw [List.length_append] at SN
      have bl := BL.out
      have hz := HZ.out
      have cc := CC.out
      generalize L[k] = x at *
      have e2 : IntKind.i64.wrap (80 + clong L.length + ((txsB (L.take k)).length : Int) + (x.m.bytes.length : Int)) = 80 + clong L.length + ((txsB (L.take (k + 1))).length : Int) := by rw [wrapI _ (by omega) (by omega)]; omega
      have HE : Hid (∀ W, x.can W → Calls Tryz.prog 149 #[.agg x.arr] W fun e w' => e = .returned (.int .i64 (x.m.bytes.length : Int)) ∧ Below W.heap.size W w') := fun W c => size_any x.m x.ai x.ci x.ao x.co W c.1 c.2 (by omega)
      clear hk hlt hn SN SL bl hz cc
      go_upto_region 5 with ((with_reducible refine at_list ?_); first | refine wpLoadT _ rfl ga (oa + k * 4) rfl x RG.out (by rfl) ?_ | refine wpList_allocA AT rfl rfl ?_ | refine wpList_store_newA AT rfl _ _ rfl _ rfl x.arr rfl (x.m.one _ _ _ _) rfl rfl ?_)
      have J1 : Hid (Below W0.heap.size W0 (wr.alloc (.cells x.arr 152))) := J.out.alloc J.out.size _
      have RX := hide (heap_alloc_last wr (.cells x.arr 152))
      have XZ : Hid (x.arr.size = 4) := rfl
      clear J RG
      generalize wr.alloc (.cells x.arr 152) = W5 at *
      generalize wr.heap.size = g6 at *
      generalize x.arr = CX at *
      go_wp2_with (first | (go_at_call 149; refine (HE.out _ (CN.out _ J1.out)).mono ?_; rintro r W6 ⟨rfl, be⟩; have J2 := hide (below_next J1.out be); clear be) | ((with_reducible refine at_list ?_); refine wpList_loadS AT _ rfl g6 rfl CX XZ.out 152 RX.out (by rfl) ?_))
      exact ⟨⟨k + 1, KK.out.1, by go_num, by first | rfl | (rw [e2]), J2⟩, by simpa [intOf] using KK.out.2⟩
    · have h1 : ¬ (k : Int) < (L.length : Int) := by omega
      rw [List.take_of_length_le (by omega)]
      clear hk hlt
      go_wp2
      go_ret
      exact ⟨by rw [BL.out]; rfl, below_next B1.out J.out⟩
end
end Go.Proofs.YtcoojkpimbddlaaGreatDoor
namespace Go.Proofs.YtcoojkpimbddlaaGreatDoor
open Go.RowKit
open Go.Deep
open Go.Maps
set_option linter.unusedVariables false
def PtD (L : List Tp) (k : Nat) (D : DataW Unit) : Prop := ∀ p : Tp, Maps.has D (.string p.keyB) = true ↔ p ∈ L.take k
theorem PtD.zero (L : List Tp) : PtD L 0 (.map []) := by
  intro p
  constructor
  · intro h; cases h
  · intro h; simp at h
theorem PtD.new {L : List Tp} {k : Nat} {D : DataW Unit} (h : PtD L k D) (hk : k < L.length) (hD : IsMap D) (d : DataW Unit) : PtD L (k + 1) (D.put (.string L[k].keyB) d) := by
  intro p
  rw [← List.take_append_getElem hk, List.mem_append, List.mem_singleton]
  by_cases e : p = L[k]
  · rw [e, has_put_same hD (by simp [WideAt.IsKeyLit])]
    exact ⟨fun _ => .inr rfl, fun _ => rfl⟩
  · rw [has_put_other (by intro e2; exact e (Tp.keyB_inj _ _ (Lit.string.inj e2))), h p]
    exact ⟨fun h => .inl h, fun h => h.resolve_right e⟩
theorem twin_here (L : List Tp) (k : Nat) (hk : k < L.length) (h : L[k] ∈ L.take k) : ¬ L.Nodup := by
  intro hn
  rw [← List.take_append_drop k L, List.nodup_append] at hn
  exact hn.2.2 _ h _ (show L[k] ∈ L.drop k by rw [List.drop_eq_getElem_cons hk]; exact List.mem_cons_self) rfl
theorem twin_not (L : List Tp) (k : Nat) (hk : k < L.length) (hn : (L.take k).Nodup) (h : L[k] ∉ L.take k) : (L.take (k + 1)).Nodup := by
  rw [← List.take_append_getElem hk, List.nodup_append]
  refine ⟨hn, by simp, fun a ha b hb e => ?_⟩
  rw [List.mem_singleton.1 hb] at e
  exact h (e ▸ ha)
theorem grown_belowP {W W' : World} (h : Below W.heap.size W W') : W.grownBy W' none := ⟨h.os, h.tape, h.output, h.size, fun k hk _ => h.block k hk⟩
theorem below_grownP {w W W' : World} {g : Nat} (h : Below w.heap.size w W) (hg : W.grownBy W' (some g)) (hle : w.heap.size ≤ g) : Below w.heap.size w W' :=
  h.trans ⟨hg.os, hg.tape, hg.output, hg.size, fun k hk => hg.block k (Nat.lt_of_lt_of_le hk h.size) (by intro e; cases e; omega)⟩
theorem make_none (t k e : TypeId) (ht : Tryz.prog.underlying t = some (.map k e)) (w : World) : (Instr.makeMap t none).run Tryz.prog w = .ok (.map (some w.heap.size)) (w.alloc (.map #[] 0)) := by
  unfold Instr.makeMap
  simp [newObj]
  rfl
structure Jt (w W : World) (n : Nat) (D : DataW Unit) : Prop where
  met : W.ownsMap Tryz.prog 160 unitElem (w.heap.size + 1) n D
  below : Below w.heap.size w W
theorem Jt.next {w W W' : World} {n : Nat} {D : DataW Unit} (j : Jt w W n D) (h : Below W.heap.size W W') : Jt w W' n D :=
  ⟨j.met.kept (grown_belowP h) (by simp), j.below.trans (h.mono j.below.size)⟩
section
set_option maxRecDepth 10000
set_option maxHeartbeats 4000000
theorem hasTwin_any (m : Tm) (ai : Option Addr) (ci : Nat) (ao : Option Addr) (co : Nat) (w : World) (hl : LT w m ai ci ao co) (hf : m.fit) : Calls Tryz.prog 211 #[.agg (m.cells ai ci ao co)] w fun e w' => e = .returned (.bool (decide (¬ (m.ins.map Ti.pt).Nodup))) ∧ Below w.heap.size w w' := by
  have HF := hide hf
  have HL := hide hl
  have s1 : (w.alloc (.cells (m.cells ai ci ao co) 152)).heap.size = w.heap.size + 1 := by simp
  have r1 := (Below.heap_alloc _ (.map #[] 0) _ (lt_heap (heap_alloc_last w (.cells (m.cells ai ci ao co) 152)))).trans (heap_alloc_last w (.cells (m.cells ai ci ao co) 152))
  have c1 : ((w.alloc (.cells (m.cells ai ci ao co) 152)).alloc (.map #[] 0)).cell? ⟨w.heap.size, 1, none⟩ = some (.slice ai m.ins.length ci) := by rw [cell_of_row _ _ _ _ _ _ r1]; rfl
  have J0 : Hid (Jt w ((w.alloc (.cells (m.cells ai ci ao co) 152)).alloc (.map #[] 0)) 0 (.map [])) := by
    have o1 := World.ownsMap_made (H := Unit) (w.alloc (.cells (m.cells ai ci ao co) 152)) Tryz.prog 160 unitElem
    rw [s1] at o1
    exact ⟨o1, ((Below.refl _ _).alloc (Nat.le_refl _) _).alloc (by rw [s1]; omega) _⟩
  have z1 := hide (PtD.zero (m.ins.map Ti.pt))
  have mk := make_none 380 160 381 Tryz.underlying380
  clear hf hl r1
  generalize m.cells ai ci ao co = C at *
  go_enter Tryz.func211, Tryz.ntmps211
  go_upto_region 2 with ((with_reducible refine at_list ?_); refine wpList_boxA rfl _ rfl C rfl ?_)
  try rw [s1]
  clear s1 mk
  generalize (w.alloc (.cells C 152)).alloc (.map #[] 0) = W0 at *
  go_upto_region 3 with fail
  clear c1
  go_loopw [12] (fun c wr => ∃ (k : Nat) (D : DataW Unit), k ≤ m.ins.length ∧ c = .int .i64 (k : Int) ∧ Hid (Jt w wr k D) ∧ Hid (PtD (m.ins.map Ti.pt) k D) ∧ Hid (((m.ins.map Ti.pt).take k).Nodup)) (fun c _ => (m.ins.length - intOf c).toNat)
  case atStart => exact ⟨0, _, Nat.zero_le _, rfl, J0, z1, by show List.Nodup _; simp⟩
  case round =>
    clear J0 z1
    obtain ⟨k, D, hk, rfl, J, hM, hN⟩ := hrel
    by_cases hlt : k < m.ins.length
    · have h1 : (k : Int) < (m.ins.length : Int) := by omega
      have h2 : (0 : Int) ≤ (k : Int) := by omega
      have h5 := HF.out.i
      have e1 : IntKind.i64.wrap ((k : Int) + 1) = k + 1 := wrapI _ (by omega) (by omega)
      have KK := hide (And.intro (show k + 1 ≤ m.ins.length by omega) (show ((m.ins.length : Int) - ((k : Int) + 1)).toNat < ((m.ins.length : Int) - (k : Int)).toNat by omega))
      have KM := hide (show k < maxLen by unfold maxLen; omega)
      obtain ⟨ga, oa, rfl⟩ := HL.out.i.base (by omega)
      have RG : Hid (wr.rangeAt ga (oa + k * 35) m.ins[k].cells) := (HL.out.below J.out.below).i.range k hlt
      have hkL : k < (m.ins.map Ti.pt).length := by simpa using hlt
      have TH := hide (twin_here (m.ins.map Ti.pt) k hkL)
      have TN := hide (twin_not (m.ins.map Ti.pt) k hkL hN.out)
      have TD := hide (fun h d => hM.out.new hkL h d)
      have hMk := hide (hM.out (m.ins[k]).pt)
      simp only [List.getElem_map] at TH TN TD
      have hkey := keyP (m.ins[k]).pt
      generalize m.ins[k] = x at *
      generalize hLL : m.ins.map Ti.pt = L at *
      have HLL := hide hLL
      clear hLL
      clear hk hlt h5 hkL hM hN
      go_upto_region 5 with ((with_reducible refine at_list ?_); first | refine wpLoadI _ rfl ga (oa + k * 35) rfl x RG.out (by rfl) ?_ | refine wpList_allocA AI rfl rfl ?_ | refine wpList_store_newA AI rfl _ _ rfl _ rfl x.cells.toArray x.size x.all rfl rfl ?_)
      have J1 := hide (J.out.next ((Below.refl wr.heap.size wr).alloc (Nat.le_refl _) (.cells x.cells.toArray 162)))
      have RP := hide (x.ptAt (rowAt _ (heap_alloc_last wr (.cells x.cells.toArray 162))))
      have RI := hide (heap_alloc_last wr (.cells x.cells.toArray 162))
      clear J RG
      generalize wr.alloc (.cells x.cells.toArray 162) = W1 at *
      generalize wr.heap.size = gI at *
      have b1 : Hid (Below W1.heap.size W1 (W1.alloc (.cells #[] 381))) := (Below.refl W1.heap.size W1).alloc (Nat.le_refl _) (.cells #[] 381)
      have J2 := hide (J1.out.next b1.out)
      have RP2 := hide (x.ptAt (rowAt _ ((b1.out.block _ (lt_heap RI.out)).trans RI.out)))
      generalize x.pt = p at *
      by_cases hm : p ∈ L.take k
      · have h9 : Maps.has D (.string p.keyB) = true := hMk.out.2 hm
        have TT := hide (TH.out hm)
        clear hm TH TN TD hMk
        go_upto_region 6 with (first | ((with_reducible refine at_list ?_); refine wpLoadP _ rfl gI 0 rfl p RP.out (by rfl) ?_) | (at_lookup; refine wpList_lookup_own_unit _ rfl _ _ 380 rfl 160 381 lawP Tryz.underlying380 (zeroSP _) (w.heap.size + 1) k D rfl J1.out.met _ _ rfl hkey ?_))
        go_wp2
        go_ret
        exact ⟨by rw [HLL.out, decide_eq_true TT.out]; rfl, J2.out.below⟩
      · have h9 : Maps.has D (.string p.keyB) = false := by
          cases e : Maps.has D (.string p.keyB)
          · rfl
          · exact absurd (hMk.out.1 e) hm
        have TN2 := hide (TN.out hm)
        have TD2 := hide (TD.out J2.out.met.isMap (.agg []))
        clear hm TH TN TD hMk
        go_upto_region 6 with (first | ((with_reducible refine at_list ?_); refine wpLoadP _ rfl gI 0 rfl p RP.out (by rfl) ?_) | (at_lookup; refine wpList_lookup_own_unit _ rfl _ _ 380 rfl 160 381 lawP Tryz.underlying380 (zeroSP _) (w.heap.size + 1) k D rfl J1.out.met _ _ rfl hkey ?_))
        clear J1 RP b1 h9 RI
        generalize W1.alloc (.cells #[] 381) = W2 at *
        go_upto_region 9 with (first | ((with_reducible refine at_list ?_); refine wpLoadP _ rfl gI 0 rfl p RP2.out (by rfl) ?_) | (at_mapUpdate; refine wpList_mapUpdate_own _ rfl _ _ _ 380 rfl 160 381 lawP Tryz.underlying380 (unitElem (H := Unit)) (w.heap.size + 1) k D rfl J2.out.met KM.out _ _ _ rfl rfl hkey _ [] unitElem_mk ?_; intro W3 ho3 hg3))
        have J3 : Hid (Jt w W3 (k + 1) (D.put (.string p.keyB) (.agg []))) := ⟨ho3, below_grownP J2.out.below hg3 (by omega)⟩
        clear ho3 hg3 J2 RP2
        go_wp2
        exact ⟨⟨k + 1, _, KK.out.1, by go_num, J3, TD2, TN2⟩, by simpa [intOf] using KK.out.2⟩
    · have h1 : ¬ (k : Int) < (m.ins.length : Int) := by omega
      have hN2 := hN.out
      rw [List.take_of_length_le (by simp; omega)] at hN2
      have HN := hide hN2
      clear hk hlt hN hM hN2
      go_wp2
      go_ret
      exact ⟨by first | (rw [decide_eq_true HN.out]; rfl) | (rw [decide_eq_false (not_not_intro HN.out)]; rfl), J.out.below⟩
end
end Go.Proofs.YtcoojkpimbddlaaGreatDoor
namespace Go.Proofs.YtcoojkpimbddlaaGreatDoor
open Go.RowKit
open Go.Deep
set_option linter.unusedVariables false
def bkE (k : ByteArray) : Int := if k.size < 2 then 105 else if 100 < k.size then 105 else 0
def nullI (x : Ti) : Bool := decide (x.pt = nullP)
def hkE : List Ti → Int
  | x :: _ => bkE x.key
  | [] => 0
theorem hkE_at (L : List Ti) (h : 0 < L.length) : hkE L = bkE L[0].key := by
  cases L with
  | nil => exact absurd h (by decide)
  | cons x r => rfl
def Tm.chk2 (m : Tm) : Int :=
  if ¬ (m.ins.map Ti.pt).Nodup then 104
  else if m.base = true then hkE m.ins
  else if m.ins.any nullI = true then 106 else 0
def Tm.chk (m : Tm) : Int :=
  if m.toldE ≠ 0 then m.toldE
  else if m.ins.length = 0 ∨ m.outs.length = 0 then 102
  else if m.paid.2 ≠ 0 then m.paid.2
  else m.chk2
section
set_option maxRecDepth 10000
set_option maxHeartbeats 4000000
theorem baseKey_any (k : ByteArray) (w : World) : Calls Tryz.prog 212 #[.string k] w fun e w' => e = .returned (.int .i64 (bkE k)) ∧ Below w.heap.size w w' := by
  unfold bkE
  by_cases h1 : k.size < 2
  · rw [if_pos h1]
    have g1 : decide ((k.size : Int) < 2) = true := decide_eq_true (by omega)
    clear h1
    go_enter Tryz.func212, Tryz.ntmps212
    go_wp2
    go_ret
    exact ⟨rfl, Below.refl _ _⟩
  · rw [if_neg h1]
    have g1 : decide ((k.size : Int) < 2) = false := decide_eq_false (by omega)
    clear h1
    by_cases h2 : 100 < k.size
    · rw [if_pos h2]
      have g2 : decide ((k.size : Int) > 100) = true := decide_eq_true (by omega)
      clear h2
      go_enter Tryz.func212, Tryz.ntmps212
      go_wp2
      go_ret
      exact ⟨rfl, Below.refl _ _⟩
    · rw [if_neg h2]
      have g2 : decide ((k.size : Int) > 100) = false := decide_eq_false (by omega)
      clear h2
      go_enter Tryz.func212, Tryz.ntmps212
      go_wp2
      go_ret
      exact ⟨rfl, Below.refl _ _⟩
end
theorem Ti.keyR {W : World} {g off : Nat} (x : Ti) (h : W.rangeAt g off x.cells) : W.cell? ⟨g, off + 33, none⟩ = some (.string x.key) := h 33 _ (by rw [← List.getElem?_toArray]; exact x.at33)
section
set_option maxRecDepth 10000
set_option maxHeartbeats 4000000
theorem check_any (m : Tm) (ai : Option Addr) (ci : Nat) (ao : Option Addr) (co : Nat) (w : World) (hl : LT w m ai ci ao co) (hf : m.fit) : Calls Tryz.prog 147 #[.agg (m.cells ai ci ao co)] w fun e w' => e = .returned (.int .i64 m.chk) ∧ Below w.heap.size w w' := by
  have b1 := (Below.refl w.heap.size w).alloc (Nat.le_refl _) (.cells (m.cells ai ci ao co) 152)
  have r1 := heap_alloc_last w (.cells (m.cells ai ci ao co) 152)
  have HF := hide hf
  have HL := hide (hl.below b1)
  have B1 := hide b1
  have CZ : Hid ((m.cells ai ci ao co).size = 4) := rfl
  have RT : Hid (∀ W, Below (w.alloc (.cells (m.cells ai ci ao co) 152)).heap.size (w.alloc (.cells (m.cells ai ci ao co) 152)) W → W.heap[w.heap.size]? = some (.cells (m.cells ai ci ao co) 152 (0, 0))) := fun W b => (b.block _ (lt_heap r1)).trans r1
  have CC : Hid (∀ W, Below (w.alloc (.cells (m.cells ai ci ao co) 152)).heap.size (w.alloc (.cells (m.cells ai ci ao co) 152)) W → W.cell? ⟨w.heap.size, 1, none⟩ = some (.slice ai m.ins.length ci) ∧ W.cell? ⟨w.heap.size, 2, none⟩ = some (.slice ao m.outs.length co)) := fun W b => by
    have q := (b.block _ (lt_heap r1)).trans r1
    exact ⟨by rw [cell_of_row _ _ _ _ _ _ q]; rfl, by rw [cell_of_row _ _ _ _ _ _ q]; rfl⟩
  have HT : Hid (∀ W, LT W m ai ci ao co → Calls Tryz.prog 210 #[.agg (m.cells ai ci ao co)] W fun e w' => e = .returned (.int .i64 m.toldE) ∧ Below W.heap.size W w') := fun W l => told_any m ai ci ao co W l HF.out
  have HP : Hid (∀ W, LT W m ai ci ao co → Calls Tryz.prog 165 #[.agg (m.cells ai ci ao co)] W fun e w' => e = .returned (.tuple #[.int .u64 (m.paid.1 : Int), .int .i64 m.paid.2]) ∧ Below W.heap.size W w') := fun W l => paid_any m ai ci ao co W l HF.out
  have HW : Hid (∀ W, LT W m ai ci ao co → Calls Tryz.prog 211 #[.agg (m.cells ai ci ao co)] W fun e w' => e = .returned (.bool (decide (¬ (m.ins.map Ti.pt).Nodup))) ∧ Below W.heap.size W w') := fun W l => hasTwin_any m ai ci ao co W l HF.out
  have HB : Hid (∀ W, LT W m ai ci ao co → Calls Tryz.prog 150 #[.agg (m.cells ai ci ao co)] W fun e w' => e = .returned (.bool m.base) ∧ Below W.heap.size W w') := fun W l => base_any m ai ci ao co W l HF.out
  clear hf hl b1 r1
  generalize m.cells ai ci ao co = C at *
  have K0 : Hid (¬ m.toldE = 0 → m.chk = m.toldE) := fun h => by rw [Tm.chk, if_pos h]
  have K1 : Hid (m.toldE = 0 → (m.ins.length = 0 ∨ m.outs.length = 0) → m.chk = 102) := fun h h2 => by rw [Tm.chk, if_neg (not_not_intro h), if_pos h2]
  have K2 : Hid (m.toldE = 0 → ¬ (m.ins.length = 0 ∨ m.outs.length = 0) → ¬ m.paid.2 = 0 → m.chk = m.paid.2) := fun h h2 h3 => by rw [Tm.chk, if_neg (not_not_intro h), if_neg h2, if_pos h3]
  have K3 : Hid (m.toldE = 0 → ¬ (m.ins.length = 0 ∨ m.outs.length = 0) → m.paid.2 = 0 → m.chk = m.chk2) := fun h h2 h3 => by rw [Tm.chk, if_neg (not_not_intro h), if_neg h2, if_neg (not_not_intro h3)]
  go_enter Tryz.func147, Tryz.ntmps147
  go_upto_region 1 with ((with_reducible refine at_list ?_); refine wpList_boxA rfl _ rfl C rfl ?_)
  generalize w.alloc (.cells C 152) = W0 at *
  have R0 := hide (RT.out _ (Below.refl _ _))
  by_cases h0 : m.toldE = 0
  · rw [h0] at HT
    go_upto_region 4 with (first | (go_at_call 210; refine (HT.out _ HL.out).mono ?_; rintro r W1 ⟨rfl, be⟩; have D1 := hide be; clear be) | ((with_reducible refine at_list ?_); refine wpList_loadS AT _ rfl w.heap.size rfl C CZ.out 152 R0.out (by rfl) ?_))
    have H0 := hide h0
    obtain ⟨ca, cb⟩ := CC.out _ D1.out
    have R1 := hide (RT.out _ D1.out)
    clear h0 HT R0
    by_cases hi : m.ins.length = 0
    · have g1 : ((m.ins.length : Int) == 0) = true := by simp [hi]
      go_wp2
      go_ret
      exact ⟨by rw [K1.out H0.out (.inl hi)]; rfl, below_next B1.out D1.out⟩
    · have g1 : ((m.ins.length : Int) == 0) = false := by rw [beq_eq_false_iff_ne]; omega
      by_cases ho : m.outs.length = 0
      · have g2 : ((m.outs.length : Int) == 0) = true := by simp [ho]
        go_wp2
        go_ret
        exact ⟨by rw [K1.out H0.out (.inr ho)]; rfl, below_next B1.out D1.out⟩
      · have g2 : ((m.outs.length : Int) == 0) = false := by rw [beq_eq_false_iff_ne]; omega
        have HIO := hide (show ¬ (m.ins.length = 0 ∨ m.outs.length = 0) by omega)
        have HI0 := hide (show 0 < m.ins.length by omega)
        clear hi ho
        go_upto_region 6 with fail
        clear g1 g2 ca cb
        by_cases hp : m.paid.2 = 0
        · rw [hp] at HP
          go_upto_region 9 with (first | (go_at_call 165; refine (HP.out _ (HL.out.below D1.out)).mono ?_; rintro r W2 ⟨rfl, be⟩; have D2 := hide (below_next D1.out be); clear be) | ((with_reducible refine at_list ?_); refine wpList_loadS AT _ rfl w.heap.size rfl C CZ.out 152 R1.out (by rfl) ?_))
          have PE := hide hp
          have R2 := hide (RT.out _ D2.out)
          clear hp HP R1 D1
          by_cases ht : (m.ins.map Ti.pt).Nodup
          · rw [decide_eq_false (not_not_intro ht)] at HW
            have NT := hide ht
            clear ht
            go_upto_region 11 with (first | (go_at_call 211; refine (HW.out _ (HL.out.below D2.out)).mono ?_; rintro r W3 ⟨rfl, be⟩; have D3 := hide (below_next D2.out be); clear be) | ((with_reducible refine at_list ?_); refine wpList_loadS AT _ rfl w.heap.size rfl C CZ.out 152 R2.out (by rfl) ?_))
            have R3 := hide (RT.out _ D3.out)
            clear HW R2 D2
            have CHK : Hid (m.chk2 = if m.base = true then hkE m.ins else if m.ins.any nullI = true then 106 else 0) := by
              show _ = _
              rw [Tm.chk2, if_neg (not_not_intro NT.out)]
            cases hb : m.base
            · rw [hb] at HB
              have CHK2 : Hid (m.chk2 = if m.ins.any nullI = true then 106 else 0) := by
                show _ = _
                rw [CHK.out, hb]
                rfl
              clear hb CHK
              go_upto_region 13 with (first | (go_at_call 150; refine (HB.out _ (HL.out.below D3.out)).mono ?_; rintro r W4 ⟨rfl, be⟩; have D4 := hide (below_next D3.out be); clear be) | ((with_reducible refine at_list ?_); refine wpList_loadS AT _ rfl w.heap.size rfl C CZ.out 152 R3.out (by rfl) ?_))
              have c4 := (CC.out _ D4.out).1
              go_upto_region 14 with fail
              clear c4 HB R3 D3
              go_loopw [44] (fun i wr => ∃ k : Nat, k ≤ m.ins.length ∧ i = .int .i64 (k : Int) ∧ Hid ((m.ins.take k).any nullI = false ∧ Below W0.heap.size W0 wr)) (fun i _ => (m.ins.length - intOf i).toNat)
              case atStart => exact ⟨0, Nat.zero_le _, rfl, by simp, D4.out⟩
              case round =>
                obtain ⟨k, hk, rfl, J⟩ := hrel
                by_cases hlt : k < m.ins.length
                · have h1 : (k : Int) < (m.ins.length : Int) := by omega
                  have h2 : (0 : Int) ≤ (k : Int) := by omega
                  have h5 := HF.out.i
                  have e1 : IntKind.i64.wrap ((k : Int) + 1) = k + 1 := wrapI _ (by omega) (by omega)
                  have KK := hide (And.intro (show k + 1 ≤ m.ins.length by omega) (show ((m.ins.length : Int) - ((k : Int) + 1)).toNat < ((m.ins.length : Int) - (k : Int)).toNat by omega))
                  obtain ⟨ga, oa, rfl⟩ := HL.out.i.base (by omega)
                  have RG : Hid (wr.rangeAt ga (oa + k * 35) m.ins[k].cells) := (HL.out.below J.out.2).i.range k hlt
                  have AH := hide (any_here nullI m.ins k hlt)
                  have ATk := hide (fun h => any_take nullI m.ins k hlt J.out.1 h)
                  have JB := hide J.out.2
                  generalize m.ins[k] = x at *
                  clear hk hlt h5 J
                  go_upto_region 16 with ((with_reducible refine at_list ?_); first | refine wpLoadI _ rfl ga (oa + k * 35) rfl x RG.out (by rfl) ?_ | refine wpList_allocA AI rfl rfl ?_ | refine wpList_store_newA AI rfl _ _ rfl _ rfl x.cells.toArray x.size x.all rfl rfl ?_)
                  have RP := hide (x.ptAt (rowAt _ (heap_alloc_last wr (.cells x.cells.toArray 162))))
                  have J2 : Hid (Below W0.heap.size W0 (wr.alloc (.cells x.cells.toArray 162))) := JB.out.alloc JB.out.size _
                  clear JB RG
                  generalize wr.alloc (.cells x.cells.toArray 162) = wr2 at *
                  generalize wr.heap.size = g7 at *
                  have HN := hide (fun W => isNull_any x.pt W)
                  cases hn : nullI x
                  · have ATK := hide (ATk.out hn)
                    rw [show decide (x.pt = nullP) = false from hn] at HN
                    clear hn AH ATk
                    generalize x.pt = p at *
                    go_wp2_with (first | (go_at_call 213; refine (HN.out _).mono ?_; rintro r W5 ⟨rfl, be⟩; have J3 := hide (below_next J2.out be); clear be) | ((with_reducible refine at_list ?_); refine wpLoadP _ rfl g7 0 rfl p RP.out (by rfl) ?_))
                    exact ⟨⟨k + 1, KK.out.1, by go_num, ATK.out, J3.out⟩, by simpa [intOf] using KK.out.2⟩
                  · have AHH := hide (AH.out hn)
                    rw [show decide (x.pt = nullP) = true from hn] at HN
                    clear hn AH ATk
                    generalize x.pt = p at *
                    go_wp2_with (first | (go_at_call 213; refine (HN.out _).mono ?_; rintro r W5 ⟨rfl, be⟩; have J3 := hide (below_next J2.out be); clear be) | ((with_reducible refine at_list ?_); refine wpLoadP _ rfl g7 0 rfl p RP.out (by rfl) ?_))
                    go_ret
                    exact ⟨by rw [K3.out H0.out HIO.out PE.out, CHK2.out, if_pos AHH.out]; rfl, below_next B1.out J3.out⟩
                · have h1 : ¬ (k : Int) < (m.ins.length : Int) := by omega
                  have NI := hide J.out.1
                  rw [List.take_of_length_le (by omega)] at NI
                  have JB := hide J.out.2
                  clear J hk hlt
                  go_wp2
                  go_ret
                  exact ⟨by rw [K3.out H0.out HIO.out PE.out, CHK2.out, if_neg (by rw [NI.out]; decide)]; rfl, below_next B1.out JB.out⟩
            · rw [hb] at HB
              have CHK2 : Hid (m.chk2 = bkE (m.ins[0]'HI0.out).key) := by
                show _ = _
                rw [CHK.out, hb, if_pos rfl]
                exact hkE_at _ HI0.out
              clear hb CHK
              obtain ⟨ga, oa, rfl⟩ := HL.out.i.base HI0.out
              go_upto_region 12 with (first | (go_at_call 150; refine (HB.out _ (HL.out.below D3.out)).mono ?_; rintro r W4 ⟨rfl, be⟩; have D4 := hide (below_next D3.out be); clear be) | ((with_reducible refine at_list ?_); refine wpList_loadS AT _ rfl w.heap.size rfl C CZ.out 152 R3.out (by rfl) ?_))
              have c4 := (CC.out _ D4.out).1
              have c5 := Ti.keyR _ ((HL.out.below D4.out).i.range 0 HI0.out)
              rw [Nat.zero_mul, Nat.add_zero] at c5
              have h9 : (0 : Int) < (m.ins.length : Int) := by have := HI0.out; omega
              generalize (m.ins[0]'HI0.out).key = kk at *
              have HK := hide (fun W => baseKey_any kk W)
              generalize bkE kk = E at *
              go_wp2_with (go_at_call 212; refine (HK.out _).mono ?_; rintro r W5 ⟨rfl, be⟩; have D5 := hide (below_next D4.out be); clear be)
              go_ret
              exact ⟨by rw [K3.out H0.out HIO.out PE.out, CHK2.out]; rfl, below_next B1.out D5.out⟩
          · rw [decide_eq_true ht] at HW
            have NT := hide ht
            clear ht
            go_wp2_with (first | (go_at_call 211; refine (HW.out _ (HL.out.below D2.out)).mono ?_; rintro r W3 ⟨rfl, be⟩; have D3 := hide (below_next D2.out be); clear be) | ((with_reducible refine at_list ?_); refine wpList_loadS AT _ rfl w.heap.size rfl C CZ.out 152 R2.out (by rfl) ?_))
            go_ret
            exact ⟨by rw [K3.out H0.out HIO.out PE.out, Tm.chk2, if_pos NT.out]; rfl, below_next B1.out D3.out⟩
        · have PE := hide hp
          go_wp2_with (first | (go_at_call 165; refine (HP.out _ (HL.out.below D1.out)).mono ?_; rintro r W2 ⟨rfl, be⟩; have D2 := hide (below_next D1.out be); clear be) | ((with_reducible refine at_list ?_); refine wpList_loadS AT _ rfl w.heap.size rfl C CZ.out 152 R1.out (by rfl) ?_))
          go_ret
          exact ⟨by rw [K2.out H0.out HIO.out PE.out]; rfl, below_next B1.out D2.out⟩
  · have H0 := hide h0
    go_wp2_with (first | (go_at_call 210; refine (HT.out _ HL.out).mono ?_; rintro r W1 ⟨rfl, be⟩; have D1 := hide be; clear be) | ((with_reducible refine at_list ?_); refine wpList_loadS AT _ rfl w.heap.size rfl C CZ.out 152 R0.out (by rfl) ?_))
    go_ret
    exact ⟨by rw [K0.out H0.out]; rfl, below_next B1.out D1.out⟩
end
end Go.Proofs.YtcoojkpimbddlaaGreatDoor
