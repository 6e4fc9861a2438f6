/- A chain: turn, Activate, Block of the block of the law's awake: their contracts. A chain: Activate, Block of the block of the law's awake: their contracts. -/
import Derived.Test.YtcoojkpimbddlaaGreatDoorP0
import Derived.Test.YtcoojkpimbddlaaGreatDoorX45
import Derived.Test.YtcoojkpimbddlaaGreatDoorX46
namespace Go.Proofs.YtcoojkpimbddlaaGreatDoor
open Go.RowKit
open Go.Deep
open Go.Maps
set_option linter.unusedVariables false
set_option linter.unusedSimpArgs false
def sp17 : Sp17 := ⟨2, (h17.at 2).id, 1, 0, Hd.id_len _⟩
theorem l17 {L : List Tno} (sm : SmT L17 L) : L.length = 2 ∧ ∃ (h0 : 0 < L.length) (h1 : 1 < L.length), (L[0].id = (gH.at 1).id ∧ L[0].ht = 0) ∧ L[1].id = (h17.at 2).id ∧ L[1].h = h17.at 2 ∧ L[1].ht = 1 ∧ L[1].sk = 0 := by
  have e : L.length = 2 := sm.1
  have h0 : 0 < L.length := by omega
  have h1 : 1 < L.length := by omega
  have q0 := sm.2 0 (by show 0 < 2; omega) h0
  have q1 := sm.2 1 (by show 1 < 2; omega) h1
  exact ⟨e, h0, h1, ⟨q0.1, q0.2.2.1⟩, q1.1, q1.2.1, q1.2.2.1, q1.2.2.2⟩
section
set_option maxRecDepth 10000
set_option maxHeartbeats 8000000
theorem turn17 {A w : World} {gch gt gm : Nat} {ve : Value} {L : List Tno} {gc bm bc gb gu : Nat} {R : Value → Option (DataW Unit × List MemPlace)} (h : Chw A w gch gt gm 2 m17 ve L 2 1 1 gc bm bc 0 0 (gH.at 1).id 0 (.map []) (.map []) R gb 2 DC17 gu 0 (.map [])) (sm : SmT L17 L) (hK : Kg A) (ao : Option Addr) (cap : Nat) (y : Tq) (hy : y.m = T17) (hz : R (.agg (bkA zHd (.slice none 0 0))) = some (.lit (.int .i64 0), [])) (hR : ∀ u ps, R u = some (.lit (.int .i64 2), ps) → u = .agg (bkA (h17.at 2) (.slice ao 1 cap))) (hL : LQ w (.slice ao 1 cap) [y]) :
    Calls Tryz.prog 106 #[.pointer (some ⟨gch, 0, none⟩)] w fun e w' => ∃ v, e = .returned (.tuple #[v, .bool false]) ∧ OX KSt w' v [sp17] ∧ (∃ DC EC DU, Chw A w' gch gt gm 2 m17 ve L 2 1 1 gc bm bc 1 1 (h17.at 2).id 1 DC EC R gb 2 DC17 gu 1 DU) ∧ Frt (fun g => S5 gc bm bc g ∨ g = gu) w w' := by
  obtain ⟨le, l0, l1, ⟨i0, t0⟩, i1, p1, t1, s1⟩ := l17 sm
  have X0 := hide h
  have L0 := hide hL
  have IZ := hide (And.intro (show (hc (h17.at 2).id).size = 32 by rw [hc_size, Hd.id_len]) (hc_one (h17.at 2).id))
  have GZ := hide (And.intro (show (hc (gH.at 1).id).size = 32 by rw [hc_size, Hd.id_len]) (hc_one (gH.at 1).id))
  have HT : Hid (∀ W, Chw A W gch gt gm 2 m17 ve L 2 1 1 gc bm bc 0 0 (gH.at 1).id 0 (.map []) (.map []) R gb 2 DC17 gu 0 (.map []) → Calls Tryz.prog 25 #[.pointer (some ⟨gc, 0, none⟩)] W fun e w' => e = .returned (.tuple #[.agg (hc (gH.at 1).id), .int .i64 0]) ∧ Below W.heap.size W w') := fun W q => tip_any q.c
  have HB : Hid (∀ W, Tm4 A W gt gm 2 m17 ve L 2 1 1 → Calls Tryz.prog 16 #[.pointer (some ⟨gt, 0, none⟩)] W fun e w' => e = .returned (.agg (hc (h17.at 2).id)) ∧ Below W.heap.size W w') := fun W q => by
    have := bestT_any q (by omega) l1
    rw [i1] at this
    exact this
  have HP : Hid (∀ W, Tm4 A W gt gm 2 m17 ve L 2 1 1 → Calls Tryz.prog 172 #[.pointer (some ⟨gt, 0, none⟩), .agg (hc (gH.at 1).id), .agg (hc (h17.at 2).id)] W fun e w' => ∃ v, e = .returned (.tuple #[.slice none 0 0, v, .int .i64 0]) ∧ OX KH w' v [⟨(h17.at 2).id, Hd.id_len _⟩] ∧ Below W.heap.size W w') := fun W q => path_up q (by omega) (gH.at 1).id (h17.at 2).id (Hd.id_len _) (Hd.id_len _) h17_id 0 1 l0 l1 t0 t1 s1 m17_atG m17_hasG m17_at m17_has i0 (by rw [p1]; rfl)
  have HC : Hid (∀ W, Chw A W gch gt gm 2 m17 ve L 2 1 1 gc bm bc 0 0 (gH.at 1).id 0 (.map []) (.map []) R gb 2 DC17 gu 0 (.map []) → LQ W (.slice ao 1 cap) [y] → Calls Tryz.prog 174 #[.pointer (some ⟨gch, 0, none⟩), .agg (hc (h17.at 2).id)] W fun e w' => e = .returned (.agg sp17.cells.toArray) ∧ (∃ DC EC DU, Chw A w' gch gt gm 2 m17 ve L 2 1 1 gc bm bc 1 1 (h17.at 2).id 1 DC EC R gb 2 DC17 gu 1 DU) ∧ Frt (fun g => S5 gc bm bc g ∨ g = gu) W w') := fun W q l => connect17 q hK ao cap y hy hz hR l
  have NS : Hid (∀ g, w.heap.size ≤ g → ¬ (S5 gc bm bc g ∨ g = gu)) := fun g hg => by
    have q1 := lt_heap h.c.row
    have q2 := h.c.mp.lt
    have q3 := h.c.ct.lt
    have q4 := h.u.lt
    rintro ((e | e | e) | e) <;> omega
  have SK : Hid (∀ (W : World) (g : Nat), W.heap[g]? = some (.cells sp17.cells.toArray 215 (0, 0)) → W.cell? ⟨g, 0, none⟩ = some (.int .i64 2)) := fun W g e => by
    rw [cell_of_row _ _ _ _ _ _ e]
    rfl
  have SZ := hide (And.intro sp17.size sp17.all)
  have ES : Hid ((KSt.enc sp17).toArray = sp17.cells.toArray) := rfl
  have HI := hide (Hd.id_len (h17.at 2))
  have EK : Hid (KH.enc ⟨(h17.at 2).id, Hd.id_len _⟩ = cellsL (h17.at 2).id) := rfl
  clear h sm hK hy hz hR hL le l0 l1 i0 t0 i1 p1 t1 s1
  generalize (⟨(h17.at 2).id, Hd.id_len _⟩ : Id32) = X at *
  generalize hST : sp17.cells.toArray = ST at *
  clear hST
  generalize (h17.at 2).id = ID at *
  generalize hc (gH.at 1).id = CG at *
  go_enter Tryz.func106, Tryz.ntmps106
  have c1 := X0.out.cells.2.1
  go_upto_region 2 with (first | (go_at_call 25; refine (HT.out _ X0.out).mono ?_; rintro e W1 ⟨rfl, be⟩; have D1 := hide be; clear be) | ((with_reducible refine at_list ?_); first | refine wpList_allocA A25 rfl rfl ?_ | refine wpList_store_newA A25 rfl _ _ rfl _ rfl CG GZ.out.1 GZ.out.2 rfl rfl ?_))
  have b2 := below_next D1.out ((Below.refl W1.heap.size W1).alloc (Nat.le_refl _) (.cells CG 46))
  have R4 := hide (heap_alloc_last W1 (.cells CG 46))
  have D2 := hide b2
  clear b2 c1 D1 HT
  generalize W1.alloc (.cells CG 46) = W2 at *
  generalize W1.heap.size = g4 at *
  have DV0 := hide (Below.refl W2.heap.size W2).drew
  have XN : Hid (∀ W, Below W2.heap.size W2 W → Chw A W gch gt gm 2 m17 ve L 2 1 1 gc bm bc 0 0 (gH.at 1).id 0 (.map []) (.map []) R gb 2 DC17 gu 0 (.map [])) := fun W b => X0.out.next (below_next D2.out b)
  refine wp_region_held_drew (S := fun W => Below W2.heap.size W2 W) (by kernel_rfl) DV0.out (fun hH => ?_)
  generalize W2.drew = V0 at *
  refine wt (i := 0) (v := (.pointer (some ⟨gch, 0, none⟩))) rfl (yl_move (by rfl) _ (by rfl) _ (by rfl)) hH ?_
  change wpAnyH _ _ _ _ _ _ _ (Act.put _ (some 26) _) _
  simp only [Act.put, List.setIfInBounds_toArray, List.set_cons_zero, List.set_cons_succ]
  refine wt (i := 1) (v := (.pointer (some ⟨gch, 0, none⟩))) rfl (.inl ⟨by rfl, fun W _ => by go_simp⟩) hH ?_
  change wpAnyH _ _ _ _ _ _ _ (Act.put _ (some 27) _) _
  simp only [Act.put, List.setIfInBounds_toArray, List.set_cons_zero, List.set_cons_succ]
  refine wt (i := 2) (v := (.pointer (some ⟨gch, 0, none⟩))) rfl (.inl ⟨by rfl, fun W _ => by go_simp⟩) hH ?_
  change wpAnyH _ _ _ _ _ _ _ (Act.put _ (some 28) _) _
  simp only [Act.put, List.setIfInBounds_toArray, List.set_cons_zero, List.set_cons_succ]
  refine wt (i := 3) (v := (.pointer (some ⟨gt, 0, none⟩))) rfl (.inl ⟨by rfl, fun W hS => by have c4 := (XN.out _ hS).cells.1; go_simp⟩) hH ?_
  change wpAnyH _ _ _ _ _ _ _ (Act.put _ (some 29) _) _
  simp only [Act.put, List.setIfInBounds_toArray, List.set_cons_zero, List.set_cons_succ]
  refine wt (i := 4) (v := (.agg CG)) rfl (yl_load (by rfl) _ (by rfl) _ CG (by rfl) (fun W hS => ld_row A25 GZ.out.1 ((hS.block _ (lt_heap R4.out)).trans R4.out))) hH ?_
  change wpAnyH _ _ _ _ _ _ _ (Act.put _ (some 30) _) _
  simp only [Act.put, List.setIfInBounds_toArray, List.set_cons_zero, List.set_cons_succ]
  refine wt (i := 5) (v := (.pointer (some ⟨gch, 0, none⟩))) rfl (yl_move (by rfl) _ (by rfl) _ (by rfl)) hH ?_
  change wpAnyH _ _ _ _ _ _ _ (Act.put _ (some 31) _) _
  simp only [Act.put, List.setIfInBounds_toArray, List.set_cons_zero, List.set_cons_succ]
  refine wt (i := 6) (v := (.pointer (some ⟨gch, 0, none⟩))) rfl (.inl ⟨by rfl, fun W _ => by go_simp⟩) hH ?_
  change wpAnyH _ _ _ _ _ _ _ (Act.put _ (some 32) _) _
  simp only [Act.put, List.setIfInBounds_toArray, List.set_cons_zero, List.set_cons_succ]
  refine wt (i := 7) (v := (.pointer (some ⟨gch, 0, none⟩))) rfl (.inl ⟨by rfl, fun W _ => by go_simp⟩) hH ?_
  change wpAnyH _ _ _ _ _ _ _ (Act.put _ (some 33) _) _
  simp only [Act.put, List.setIfInBounds_toArray, List.set_cons_zero, List.set_cons_succ]
  refine wt (i := 8) (v := (.pointer (some ⟨gt, 0, none⟩))) rfl (.inl ⟨by rfl, fun W hS => by have c4 := (XN.out _ hS).cells.1; go_simp⟩) hH ?_
  change wpAnyH _ _ _ _ _ _ _ (Act.put _ (some 34) _) _
  simp only [Act.put, List.setIfInBounds_toArray, List.set_cons_zero, List.set_cons_succ]
  refine wpAnyH_ready (rs := [9]) (by kernel_rfl) (by simp) (AllReadyH.cons rfl (fun K1 hK1 => ?_) AllReadyH.nil)
  go_simp
  refine (HB.out V0 (XN.out _ DV0.out).t).mono ?_
  rintro r V1 ⟨rfl, be⟩
  have DV1 := hide (below_next DV0.out be)
  clear be
  refine hK1.out _ _ DV1.out (fun hH => ?_)
  clear hK1
  refine wpAnyH_ready (rs := [10]) (by kernel_rfl) (by simp) (AllReadyH.cons rfl (fun K1 hK1 => ?_) AllReadyH.nil)
  go_simp
  refine (HP.out V1 (XN.out _ DV1.out).t).mono ?_
  rintro r V2 ⟨vp, rfl, op, be⟩
  obtain ⟨gp, cp, rfl⟩ := op.form0 (by simp)
  have DV2 := hide (below_next DV1.out be)
  have OP := hide op
  clear be op
  rw [show [X].length = 1 from rfl] at *
  refine hK1.out _ _ DV2.out (fun hH => ?_)
  clear hK1
  refine wt (i := 11) (v := (.tuple #[.slice none 0 0, .slice (some ⟨gp, 0, none⟩) 1 cp, .int .i64 0])) rfl (yl_move (by rfl) _ (by rfl) _ (by rfl)) hH ?_
  change wpAnyH _ _ _ _ _ _ _ (Act.put _ (some 25) _) _
  simp only [Act.put, List.setIfInBounds_toArray, List.set_cons_zero, List.set_cons_succ]
  refine wt (i := 12) (v := (.slice none 0 0)) rfl (.inl ⟨by rfl, fun W _ => by go_simp⟩) hH ?_
  change wpAnyH _ _ _ _ _ _ _ (Act.put _ (some 37) _) _
  simp only [Act.put, List.setIfInBounds_toArray, List.set_cons_zero, List.set_cons_succ]
  refine wt (i := 13) (v := (.slice (some ⟨gp, 0, none⟩) 1 cp)) rfl (.inl ⟨by rfl, fun W _ => by go_simp⟩) hH ?_
  change wpAnyH _ _ _ _ _ _ _ (Act.put _ (some 38) _) _
  simp only [Act.put, List.setIfInBounds_toArray, List.set_cons_zero, List.set_cons_succ]
  refine wt (i := 14) (v := (.int .i64 0)) rfl (.inl ⟨by rfl, fun W _ => by go_simp⟩) hH ?_
  change wpAnyH _ _ _ _ _ _ _ (Act.put _ (some 39) _) _
  simp only [Act.put, List.setIfInBounds_toArray, List.set_cons_zero, List.set_cons_succ]
  refine wt (i := 15) (v := (.slice none 0 0)) rfl (.inl ⟨by rfl, fun W _ => by go_simp⟩) hH ?_
  change wpAnyH _ _ _ _ _ _ _ (Act.put _ (some 6) _) _
  simp only [Act.put, List.setIfInBounds_toArray, List.set_cons_zero, List.set_cons_succ]
  refine wt (i := 16) (v := (.slice (some ⟨gp, 0, none⟩) 1 cp)) rfl (.inl ⟨by rfl, fun W _ => by go_simp⟩) hH ?_
  change wpAnyH _ _ _ _ _ _ _ (Act.put _ (some 7) _) _
  simp only [Act.put, List.setIfInBounds_toArray, List.set_cons_zero, List.set_cons_succ]
  refine wt (i := 17) (v := (.int .i64 0)) rfl (.inl ⟨by rfl, fun W _ => by go_simp⟩) hH ?_
  change wpAnyH _ _ _ _ _ _ _ (Act.put _ (some 8) _) _
  simp only [Act.put, List.setIfInBounds_toArray, List.set_cons_zero, List.set_cons_succ]
  refine wpAnyH_done (by kernel_rfl) ?_ _
  clear hH
  have X3 := hide (XN.out _ DV2.out)
  have L3 := hide (L0.out.below (below_next D2.out DV2.out))
  have F3 := hide (Frt.of_below (S := fun g => S5 gc bm bc g ∨ g = gu) (below_next D2.out DV2.out))
  have RP : Hid (V2.rangeAt gp 0 (cellsL ID)) := by
    have r := OP.out.read.range 0 (by simp)
    rw [show (0 : Nat) + 0 * KH.k = 0 by omega] at r
    rw [← EK.out]
    exact r
  clear DV0 DV1 DV2 D2 R4 XN X0 L0 HB HP OP
  go_upto_region 5 with fail
  go_loopw [9, 42] (fun s i wr => s = .slice none 0 0 ∧ i = .int .i64 0 ∧ wr = V2) (fun _ _ _ => 0)
  case atStart => exact ⟨rfl, rfl, rfl⟩
  case round =>
    obtain ⟨rfl, rfl, hv⟩ := hrel
    subst wr
    go_upto_region 13 with fail
    go_loopw [9, 62] (fun s i wx => (s = .slice none 0 0 ∧ i = .int .i64 0 ∧ wx = V2) ∨ (i = .int .i64 1 ∧ Hid (OX KSt wx s [sp17] ∧ (∃ DC EC DU, Chw A wx gch gt gm 2 m17 ve L 2 1 1 gc bm bc 1 1 ID 1 DC EC R gb 2 DC17 gu 1 DU) ∧ Frt (fun g => S5 gc bm bc g ∨ g = gu) w wx))) (fun _ i _ => (1 - intOf i).toNat)
    case atStart => exact .inl ⟨rfl, rfl, rfl⟩
    case round =>
      rcases hrel with ⟨rfl, rfl, hv⟩ | ⟨rfl, J⟩
      · subst wr
        go_upto_region 15 with ((with_reducible refine at_list ?_); first | refine wpLoadH25 _ rfl gp 0 rfl ID HI.out RP.out (by rfl) ?_ | refine wpList_allocA A25 rfl rfl ?_ | refine wpList_store_newA A25 rfl _ _ rfl _ rfl (hc ID) IZ.out.1 IZ.out.2 rfl rfl ?_)
        have b4 := (Below.refl V2.heap.size V2).alloc (Nat.le_refl _) (.cells (hc ID) 46)
        have X4 := hide (X3.out.next b4)
        have L4 := hide (L3.out.below b4)
        have F4 := hide (F3.out.next b4)
        have R15 := hide (heap_alloc_last V2 (.cells (hc ID) 46))
        clear b4 X3 L3
        generalize V2.alloc (.cells (hc ID) 46) = V4 at *
        generalize V2.heap.size = g15 at *
        go_upto_region 16 with (first | (go_at_call 174; refine (HC.out _ X4.out L4.out).mono ?_; rintro e V5 ⟨rfl, ⟨DC, EC, DU, x5⟩, f5⟩; have X5 := hide x5; have F5 := hide (F4.out.trans' f5); clear x5 f5) | ((with_reducible refine at_list ?_); first | refine wpList_loadS A25 _ rfl g15 rfl (hc ID) IZ.out.1 46 R15.out (by rfl) ?_ | refine wpList_allocA ASt rfl rfl ?_ | refine wpList_store_newA ASt rfl _ _ rfl _ rfl ST SZ.out.1 SZ.out.2 rfl rfl ?_))
        have X6 := hide (X5.out.next ((Below.refl V5.heap.size V5).alloc (Nat.le_refl _) (.cells ST 215)))
        have F6 := hide (F5.out.next ((Below.refl V5.heap.size V5).alloc (Nat.le_refl _) (.cells ST 215)))
        have R16 := hide (heap_alloc_last V5 (.cells ST 215))
        clear X5 X4 L4 R15 HC
        generalize V5.alloc (.cells ST 215) = V6 at *
        generalize V5.heap.size = g16 at *
        go_upto_region 17 with ((with_reducible refine at_list ?_); first | refine wpList_loadS ASt _ rfl g16 rfl ST SZ.out.1 215 R16.out (by rfl) ?_ | refine Ek.wpBs1 KSt rfl _ rfl sp17 (by rw [ES.out]; rfl) ?_ | (refine Ek.wpApp KSt rfl _ _ rfl _ [] rfl (OX.nil _) _ 1 1 [sp17] rfl rfl (one_newX (E := KSt) V6 sp17) (by show (0 + 1) * 56 ≤ _; omega) (by show 0 + 1 ≤ _; unfold maxLen; omega) ?_; intro v' w' ho hon))
        have g := hon.grown
        have ba := (Below.refl V6.heap.size V6).alloc (Nat.le_refl _) (.cells (KSt.enc sp17).toArray KSt.e)
        have BL : Below V6.heap.size V6 w' := ⟨g.os.trans ba.os, g.tape.trans ba.tape, g.output.trans ba.output, Nat.le_trans ba.size g.size, fun q hq => (g.block q (Nat.lt_of_lt_of_le hq ba.size) (fun e => by cases e)).trans (ba.block q hq)⟩
        have X7 := hide (X6.out.next BL)
        have F7 := hide (F6.out.next BL)
        have HO := hide ho
        have c16 := SK.out _ _ ((BL.block _ (lt_heap R16.out)).trans R16.out)
        clear ho hon g ba BL X6 R16
        go_wp2
        exact ⟨.inr ⟨rfl, HO.out, ⟨DC, EC, DU, X7.out⟩, F7.out⟩, by simp [intOf]⟩
      · go_wp2
        go_ret2
        exact ⟨_, rfl, J.out.1, J.out.2⟩
end
section
set_option maxRecDepth 10000
set_option maxHeartbeats 8000000
theorem activate17 {A w : World} {gch gt gm : Nat} {ve : Value} {L : List Tno} {gc bm bc gb gu : Nat} {R : Value → Option (DataW Unit × List MemPlace)} (h : Chw A w gch gt gm 2 m17 ve L 2 1 1 gc bm bc 0 0 (gH.at 1).id 0 (.map []) (.map []) R gb 2 DC17 gu 0 (.map [])) (sm : SmT L17 L) (hK : Kg A) (ao : Option Addr) (cap : Nat) (y : Tq) (hy : y.m = T17) (hz : R (.agg (bkA zHd (.slice none 0 0))) = some (.lit (.int .i64 0), [])) (hR : ∀ u ps, R u = some (.lit (.int .i64 2), ps) → u = .agg (bkA (h17.at 2) (.slice ao 1 cap))) (hL : LQ w (.slice ao 1 cap) [y]) :
    Calls Tryz.prog 44 #[.pointer (some ⟨gch, 0, none⟩)] w fun e w' => ∃ g c, e = .returned (.slice (some ⟨g, 0, none⟩) 1 c) ∧ OX KSt w' (.slice (some ⟨g, 0, none⟩) 1 c) [sp17] ∧ (∃ DC EC DU, Chw A w' gch gt gm 2 m17 ve L 2 1 1 gc bm bc 1 1 (h17.at 2).id 1 DC EC R gb 2 DC17 gu 1 DU) ∧ Frt (fun g => S5 gc bm bc g ∨ g = gu) w w' := by
  have HT := hide (turn17 h sm hK ao cap y hy hz hR hL)
  clear h sm hK hy hz hR hL
  generalize (h17.at 2).id = ID at *
  go_enter Tryz.func44, Tryz.ntmps44
  go_upto_region 5 with fail
  go_loopw [3, 4] (fun s t wr => (s = .slice none 0 0 ∧ t = .bool true ∧ wr = w) ∨ (t = .bool false ∧ Hid (∃ g c, s = .slice (some ⟨g, 0, none⟩) 1 c ∧ OX KSt wr (.slice (some ⟨g, 0, none⟩) 1 c) [sp17] ∧ (∃ DC EC DU, Chw A wr gch gt gm 2 m17 ve L 2 1 1 gc bm bc 1 1 ID 1 DC EC R gb 2 DC17 gu 1 DU) ∧ Frt (fun g => S5 gc bm bc g ∨ g = gu) w wr))) (fun _ t _ => match t with | .bool true => 1 | _ => 0)
  case atStart => exact .inl ⟨rfl, rfl, rfl⟩
  case round =>
    rcases hrel with ⟨rfl, rfl, rfl⟩ | ⟨rfl, J⟩
    · go_upto_region 8 with (go_at_call 106; refine HT.out.mono ?_; rintro e W2 ⟨v2, rfl, ox, ⟨DC, EC, DU, x2⟩, f2⟩; obtain ⟨g2, c2, rfl⟩ := ox.form0 (by simp); have OO := hide ox; have X2 := hide x2; have F2 := hide f2; clear ox x2 f2)
      rw [show [sp17].length = 1 from rfl] at *
      have NW : Hid (∀ j u, (flatE KSt [sp17])[j]? = some u → W2.cell? ((⟨g2, 0, none⟩ : Addr).add j) = some u) := fun j u hu => by
        rw [flatE_one] at hu
        have r := OO.out.read.range 0 (by simp) j u hu
        have hadd : (⟨g2, 0, none⟩ : Addr).add j = ⟨g2, 0 + j, none⟩ := by unfold Addr.add; split <;> simp_all
        rw [hadd]
        rw [Nat.zero_mul, Nat.zero_add] at r
        rw [Nat.zero_add]
        exact r
      go_wp2_with ((with_reducible refine at_list ?_); refine Ek.wpApp KSt rfl _ _ rfl _ [] rfl (OX.nil _) _ 1 c2 [sp17] rfl rfl NW.out (by show (0 + 1) * 56 ≤ _; omega) (by show 0 + 1 ≤ _; unfold maxLen; omega) ?_; intro v' w' ho hon)
      obtain ⟨g3, c3, rfl⟩ := ho.form0 (by simp)
      have g := hon.grown
      have X3 := hide (X2.out.next ⟨g.os, g.tape, g.output, g.size, fun q hq => g.block q hq (fun e => by cases e)⟩)
      have F3 := hide (F2.out.next ⟨g.os, g.tape, g.output, g.size, fun q hq => g.block q hq (fun e => by cases e)⟩)
      have HO := hide ho
      clear ho hon g
      exact ⟨.inr ⟨rfl, g3, c3, rfl, HO.out, ⟨DC, EC, DU, X3.out⟩, F3.out⟩, Nat.zero_lt_one⟩
    · obtain ⟨g3, c3, rfl, o3, x3⟩ := J.out
      go_wp2
      go_ret
      exact ⟨g3, c3, rfl, o3, x3⟩
theorem block17 {A w : World} {gch gt gm : Nat} {ve : Value} {gc bm bc gb gu : Nat} (h : Chw A w gch gt gm 1 mG17 ve [ndG] 1 0 0 gc bm bc 0 0 (gH.at 1).id 0 (.map []) (.map []) boR gb 1 DB17 gu 0 (.map [])) (hK : Kg A) (v : Value) (x : Tq) (hx : x.m = T17) (a b : Nat) (ha : gt < a ∧ gm < a ∧ ∀ g, ve.ownBlock = some g → g < a) (hgb : gb < a) (hgc : ∀ g, S5 gc bm bc g ∨ g = gu → g < a) (hb : b ≤ w.heap.size) (hL : ∀ W' : World, (∀ g, a ≤ g → g < b → W'.heap[g]? = w.heap[g]?) → LQ W' v [x]) :
    Calls Tryz.prog 31 #[.pointer (some ⟨gch, 0, none⟩), .agg (bkA (h17.at 2) v), .int .u32 4294967295] w fun e w' => ∃ g c, e = .returned (.tuple #[.slice (some ⟨g, 0, none⟩) 1 c, .int .i64 0]) ∧ OX KSt w' (.slice (some ⟨g, 0, none⟩) 1 c) [sp17] ∧ (∃ ve L R DC EC DU, Chw A w' gch gt gm 2 m17 ve L 2 1 1 gc bm bc 1 1 (h17.at 2).id 1 DC EC R gb 2 DC17 gu 1 DU) ∧ ∀ g, a ≤ g → g < b → w'.heap[g]? = w.heap[g]? := by
  obtain ⟨av, cv, rfl⟩ := (hL w (fun _ _ _ => rfl)).l.form
  rw [show ([x] : List Tq).length = 1 from rfl] at *
  have b1 := (Below.refl w.heap.size w).alloc (Nat.le_refl _) (.cells (bkA (h17.at 2) (.slice av 1 cv)) 62)
  have R4 := hide (heap_alloc_last w (.cells (bkA (h17.at 2) (.slice av 1 cv)) 62))
  have HLd := hide (load17 (h.next b1) hK (.slice av 1 cv) x hx a b ha hgb (Nat.le_trans hb b1.size) (fun W' ag => hL W' (fun g h1 h2 => (ag g h1 h2).trans (b1.block g (by omega)))))
  have HAc := hide (fun (W : World) (ve : Value) (L : List Tno) (R : Value → Option (DataW Unit × List MemPlace)) (ao : Option Addr) (cap : Nat) (y : Tq) (q : Chw A W gch gt gm 2 m17 ve L 2 1 1 gc bm bc 0 0 (gH.at 1).id 0 (.map []) (.map []) R gb 2 DC17 gu 0 (.map [])) (sm : SmT L17 L) (hz : R (.agg (bkA zHd (.slice none 0 0))) = some (.lit (.int .i64 0), [])) (hR : ∀ u ps, R u = some (.lit (.int .i64 2), ps) → u = .agg (bkA (h17.at 2) (.slice ao 1 cap))) (l : LQ W (.slice ao 1 cap) [y]) (hy : y.m = T17) => activate17 q sm hK ao cap y hy hz hR l)
  have BZ := hide (bkA_size (h17.at 2) (.slice av 1 cv))
  have AG0 : Hid (∀ g, a ≤ g → g < b → (w.alloc (.cells (bkA (h17.at 2) (.slice av 1 cv)) 62)).heap[g]? = w.heap[g]?) := fun g h1 h2 => b1.block g (by omega)
  have SB : Hid (b ≤ (w.alloc (.cells (bkA (h17.at 2) (.slice av 1 cv)) 62)).heap.size) := Nat.le_trans hb b1.size
  have HGC := hide hgc
  clear b1 h hK hx ha hb hL hgc hgb
  generalize (h17.at 2).id = ID at *
  generalize bkA (h17.at 2) (.slice av 1 cv) = BK at *
  go_enter Tryz.func31, Tryz.ntmps31
  go_upto_region 1 with ((with_reducible refine at_list ?_); refine wpList_boxA rfl _ rfl BK rfl ?_)
  generalize w.alloc (.cells BK 62) = W0 at *
  go_wp2_with (first | (go_at_call 42; refine HLd.out.mono ?_; rintro e W1 ⟨rfl, ve, L, R, ao, cap, y, x1, sm, hz, hR, ⟨lq, hy⟩, ag⟩; have AG1 := hide ag; have X1 := hide x1; have S1 := hide sm; have Z1 := hide hz; have RR := hide hR; have L1 := hide lq; have Y1 := hide hy; clear x1 sm hz hR lq hy ag) | (go_at_call 44; refine (HAc.out _ _ _ _ _ _ _ X1.out S1.out Z1.out RR.out L1.out Y1.out).mono ?_; rintro e W2 ⟨g, c, rfl, ox, ⟨DC, EC, DU, x2⟩, f2⟩; have OO := hide ox; have X2 := hide x2; have F2 := hide f2; clear ox x2 f2) | ((with_reducible refine at_list ?_); refine wpList_loadS ABk _ rfl w.heap.size rfl BK BZ.out 62 R4.out (by rfl) ?_))
  go_ret2
  exact ⟨g, c, rfl, OO.out, ⟨_, _, _, DC, EC, DU, X2.out⟩, fun g h1 h2 => (F2.out.block g (by
    have e := AG1.out g h1 h2
    have l : g < W0.heap.size := by have := SB.out; omega
    rw [Array.getElem?_eq_getElem l] at e
    exact (Array.getElem?_eq_some_iff.1 e).1) (fun e => by have := HGC.out g e; omega)).trans ((AG1.out g h1 h2).trans (AG0.out g h1 h2))⟩
end
end Go.Proofs.YtcoojkpimbddlaaGreatDoor
