/- The walk of TxOpens. -/
import Derived.Test.YtfldpejdpinppaaDoorKwa
import Derived.Test.YtfldpejdpinppaaDoorKwb
import Derived.Test.YtfldpejdpinppaaDoorKr
namespace Go.Proofs.YtfldpejdpinppaaDoor
open Go.RowKit
open Go.Deep
set_option linter.unusedVariables false
section
set_option maxRecDepth 10000
set_option maxHeartbeats 4000000
theorem txOpens_walk (w : World) (hK : Kg w) (key : ByteArray) (hk : key.size ≤ 140737488351232) (m : Tm) (ai : Option Addr) (ci : Nat) (ao : Option Addr) (co : Nat) (hm : LT w m ai ci ao co) (hf : m.fit) (lk : ByteArray) (n h : Int) (hh : h ≤ 9223372036854775807) (tt : UInt32) : Calls Tryd.prog 4 #[.string key, .agg (m.cells ai ci ao co), .agg #[.string lk, .int .i64 n, .int .i64 h, .int .u32 (tt.toNat : Int)]] w fun r w' => r = .returned (.bool true) ∧ Below w.heap.size w w' := by
  have e1 := heap_alloc_last w (.cells (m.cells ai ci ao co) 26)
  have r1 := (Below.heap_alloc _ (.cells #[.string lk, .int .i64 n, .int .i64 h, .int .u32 (tt.toNat : Int)] 47) _ (lt_heap e1)).trans e1
  have r2 := heap_alloc_last (w.alloc (.cells (m.cells ai ci ao co) 26)) (.cells #[.string lk, .int .i64 n, .int .i64 h, .int .u32 (tt.toNat : Int)] 47)
  have hsz : (w.alloc (.cells (m.cells ai ci ao co) 26)).heap.size = w.heap.size + 1 := by simp
  rw [hsz] at r2
  have b0 : Below w.heap.size w ((w.alloc (.cells (m.cells ai ci ao co) 26)).alloc (.cells #[.string lk, .int .i64 n, .int .i64 h, .int .u32 (tt.toNat : Int)] 47)) := ((Below.refl _ _).alloc (Nat.le_refl _) _).alloc (by simp) _
  have HL := hide (hm.below b0)
  have KS := hide (hK.next b0)
  have B0 := hide b0
  have R1 := hide r1
  have R2 := hide r2
  have HF := hide hf
  have CZ : Hid ((m.cells ai ci ao co).size = 4) := rfl
  have HC1 := hide (hc_one (dg2 key))
  have HCZ : Hid ((hc (dg2 key)).size = 32) := by show _ = _; rw [hc_size, dg2_len]
  have HT := hide (fun W => rtwice_any key (by omega) W)
  change Hid (∀ W, Calls Tryd.prog 18 #[.string key] W fun e w' => e = .returned (.agg (hc (dg2 key))) ∧ Below W.heap.size W w') at HT
  have HO : Hid (∀ W (l : ByteArray), Kg W → Calls Tryd.prog 14 #[.string l, .string key] W fun e w' => e = .returned (.bool (opB l key)) ∧ Below W.heap.size W w') := fun W l g => opens_any l key hk W g
  have HP := hide (fun W => ropens_any lk key hk W)
  have HI : Hid (∀ W, Kg W → (0 ≤ n ∧ n ≤ 32) → Calls Tryd.prog 13 #[.string key, .int .i64 n] W fun e w' => e = .returned (.tuple #[.string (lockT key n.toNat), .int .i64 0]) ∧ Below W.heap.size W w') := fun W g hn => by
    obtain ⟨k, rfl⟩ := Int.eq_ofNat_of_zero_le hn.1
    exact lock_in key hk k (by omega) W g
  have HU : Hid (∀ W, ¬ (0 ≤ n ∧ n ≤ 32) → Calls Tryd.prog 13 #[.string key, .int .i64 n] W fun e w' => e = .returned (.tuple #[.string ⟨#[]⟩, .int .i64 1]) ∧ w' = W) := fun W hn => lock_out key n (by omega) W
  have HMX := hide (show max h 0 ≤ 9223372036854775807 by omega)
  clear e1 r1 r2 b0 hm hf hK hk hh
  have HFin : Hid (∀ W, LT W m ai ci ao co → Calls Tryd.prog 16 #[.agg (m.cells ai ci ao co), .int .i64 h, .int .u32 (tt.toNat : Int)] W fun e w' => e = .returned (.bool (finB m h (tt.toNat : Int))) ∧ Below W.heap.size W w') := fun W l => final_any m ai ci ao co W l HF.out h tt
  have HGiv : Hid (∀ W, LT W m ai ci ao co → Calls Tryd.prog 7 #[.agg (m.cells ai ci ao co)] W fun e w' => ∃ (bi : Option Addr) (di : Nat) (bo : Option Addr) (d0 : Nat), e = .returned (.agg (m.cells bi di bo d0)) ∧ LR w' m bi di bo d0 ∧ Below W.heap.size W w') := fun W l => given_any m ai ci ao co W l HF.out
  have HM : Hid (∀ W (bi : Option Addr) (di : Nat) (bo : Option Addr) (d0 : Nat), LR W m bi di bo d0 → Calls Tryd.prog 17 #[.agg (m.cells bi di bo d0), .int .i64 (max h 0), .int .u32 (tt.toNat : Int)] W fun e w' => e = .returned (.bool (finB m h (tt.toNat : Int))) ∧ Below W.heap.size W w') := fun W bi di bo d0 l => by
    have := rfinal_any m bi di bo d0 W l HF.out (max h 0) (by omega) HMX.out tt
    rwa [finB_max] at this
  generalize m.cells ai ci ao co = CM at *
  go_enter Tryd.func4, Tryd.ntmps4
  go_upto_region 1 with ((with_reducible refine at_list ?_); first | refine wpList_boxA rfl _ rfl CM rfl ?_ | refine wpList_boxA rfl _ rfl #[.string lk, .int .i64 n, .int .i64 h, .int .u32 (tt.toNat : Int)] rfl ?_)
  try rw [hsz]
  clear hsz
  generalize (w.alloc (.cells CM 26)).alloc (.cells #[.string lk, .int .i64 n, .int .i64 h, .int .u32 (tt.toNat : Int)] 47) = Wa at *
  have v0 : Wa.cell? ⟨w.heap.size + 1, 0, none⟩ = some (.string lk) := by rw [cell_of_row _ _ _ _ _ _ R2.out]; rfl
  have v1 : Wa.cell? ⟨w.heap.size + 1, 1, none⟩ = some (.int .i64 n) := by rw [cell_of_row _ _ _ _ _ _ R2.out]; rfl
  by_cases hn : 0 ≤ n ∧ n ≤ 32
  · go_upto_region 3 with (go_at_call 13; refine (HI.out _ KS.out hn).mono ?_; rintro r W0 ⟨rfl, b1⟩; have BW := hide b1; clear b1)
    clear v0 v1
    have KK := hide (KS.out.next BW.out)
    have RT : Hid (∀ W, Below W0.heap.size W0 W → W.heap[w.heap.size]? = some (.cells CM 26 (0, 0))) := fun W b => ((below_next BW.out b).block _ (lt_heap R1.out)).trans R1.out
    have CW : Hid (∀ W, Below W0.heap.size W0 W → W.cell? ⟨w.heap.size + 1, 0, none⟩ = some (.string lk) ∧ W.cell? ⟨w.heap.size + 1, 1, none⟩ = some (.int .i64 n) ∧ W.cell? ⟨w.heap.size + 1, 2, none⟩ = some (.int .i64 h) ∧ W.cell? ⟨w.heap.size + 1, 3, none⟩ = some (.int .u32 (tt.toNat : Int))) := fun W b => by
      have q := ((below_next BW.out b).block _ (lt_heap R2.out)).trans R2.out
      refine ⟨?_, ?_, ?_, ?_⟩ <;> (rw [cell_of_row _ _ _ _ _ _ q]; rfl)
    have HN := hide (fun W (b : Below W0.heap.size W0 W) => HFin.out W (HL.out.below (below_next BW.out b)))
    have HG := hide (fun W (b : Below W0.heap.size W0 W) => HGiv.out W (HL.out.below (below_next BW.out b)))
    have BT := hide (fun W (b : Below W0.heap.size W0 W) => below_next B0.out (below_next BW.out b))
    clear HFin HGiv HL BW B0 R1 R2 KS HI HU HMX HF
    have BD := hide ((Below.refl W0.heap.size W0).drew)
    refine wp_region_held_drew (S := fun W => Below W0.heap.size W0 W) (by kernel_rfl) BD.out (fun hH => ?_)
    generalize hWd : W0.drew = V1 at *
    clear hWd
    refine wpAnyH_ready (rs := [0]) (by kernel_rfl) (by simp) (AllReadyH.cons rfl (fun K1 hK1 => ?_) AllReadyH.nil)
    go_simp
    refine (awake10 V1).mono ?_
    rintro r V2 ⟨rfl, be⟩
    have D2 := hide (below_next BD.out be)
    clear be
    refine hK1.out _ _ D2.out (fun hH => ?_)
    clear hK1
    refine wpAnyH_take (i := 1) (v := (.bool false)) rfl (by kernel_rfl) (by kernel_rfl) (by kernel_rfl) (fun _ _ _ h => h) (.inl ⟨by rfl, fun W _ => by go_simp⟩) hH ?_
    change wpAnyH _ _ _ _ _ _ _ (Act.put _ (some 21) _) _
    simp only [Act.put, List.setIfInBounds_toArray, List.set_cons_zero, List.set_cons_succ]
    refine wpAnyH_take (i := 2) (v := (.bool false)) rfl (by kernel_rfl) (by kernel_rfl) (by kernel_rfl) (fun _ _ _ h => h) (yl_move (by rfl) _ (by rfl) _ (by rfl)) hH ?_
    change wpAnyH _ _ _ _ _ _ _ (Act.put _ (some 22) _) _
    simp only [Act.put, List.setIfInBounds_toArray, List.set_cons_zero, List.set_cons_succ]
    refine wpAnyH_take (i := 3) (v := (.string lk)) rfl (by kernel_rfl) (by kernel_rfl) (by kernel_rfl) (fun _ _ _ h => h) (yl_move (by rfl) _ (by rfl) _ (by rfl)) hH ?_
    change wpAnyH _ _ _ _ _ _ _ (Act.put _ (some 23) _) _
    simp only [Act.put, List.setIfInBounds_toArray, List.set_cons_zero, List.set_cons_succ]
    refine wpAnyH_take (i := 4) (v := (.string key)) rfl (by kernel_rfl) (by kernel_rfl) (by kernel_rfl) (fun _ _ _ h => h) (yl_move (by rfl) _ (by rfl) _ (by rfl)) hH ?_
    change wpAnyH _ _ _ _ _ _ _ (Act.put _ (some 24) _) _
    simp only [Act.put, List.setIfInBounds_toArray, List.set_cons_zero, List.set_cons_succ]
    refine wpAnyH_take (i := 6) (v := (.string lk)) rfl (by kernel_rfl) (by kernel_rfl) (by kernel_rfl) (fun _ _ _ h => h) (yl_move (by rfl) _ (by rfl) _ (by rfl)) hH ?_
    change wpAnyH _ _ _ _ _ _ _ (Act.put _ (some 26) _) _
    simp only [Act.put, List.setIfInBounds_toArray, List.set_cons_zero, List.set_cons_succ]
    refine wpAnyH_take (i := 7) (v := (.string key)) rfl (by kernel_rfl) (by kernel_rfl) (by kernel_rfl) (fun _ _ _ h => h) (yl_move (by rfl) _ (by rfl) _ (by rfl)) hH ?_
    change wpAnyH _ _ _ _ _ _ _ (Act.put _ (some 27) _) _
    simp only [Act.put, List.setIfInBounds_toArray, List.set_cons_zero, List.set_cons_succ]
    refine wpAnyH_ready (rs := [5]) (by kernel_rfl) (by simp) (AllReadyH.cons rfl (fun K1 hK1 => ?_) AllReadyH.nil)
    go_simp
    refine (HO.out V2 lk (KK.out.next D2.out)).mono ?_
    rintro r V3 ⟨rfl, be⟩
    have D3 := hide (below_next D2.out be)
    clear be
    refine hK1.out _ _ D3.out (fun hH => ?_)
    clear hK1
    refine wpAnyH_ready (rs := [8]) (by kernel_rfl) (by simp) (AllReadyH.cons rfl (fun K1 hK1 => ?_) AllReadyH.nil)
    go_simp
    refine (HP.out V3).mono ?_
    rintro r V4 ⟨rfl, be⟩
    have D4 := hide (below_next D3.out be)
    clear be
    refine hK1.out _ _ D4.out (fun hH => ?_)
    clear hK1
    have hq1 : (opB lk key != opB lk key) = false := by simp
    refine wpAnyH_take (i := 9) (v := (.bool false)) rfl (by kernel_rfl) (by kernel_rfl) (by kernel_rfl) (fun _ _ _ h => h) (.inl ⟨by rfl, fun W _ => by go_simp⟩) hH ?_
    change wpAnyH _ _ _ _ _ _ _ (Act.put _ (some 29) _) _
    simp only [Act.put, List.setIfInBounds_toArray, List.set_cons_zero, List.set_cons_succ]
    refine wpAnyH_take (i := 10) (v := (.bool false)) rfl (by kernel_rfl) (by kernel_rfl) (by kernel_rfl) (fun _ _ _ h => h) (.inl ⟨by rfl, fun W _ => by go_simp⟩) hH ?_
    change wpAnyH _ _ _ _ _ _ _ (Act.put _ (some 30) _) _
    simp only [Act.put, List.setIfInBounds_toArray, List.set_cons_zero, List.set_cons_succ]
    refine wpAnyH_take (i := 11) (v := (.bool false)) rfl (by kernel_rfl) (by kernel_rfl) (by kernel_rfl) (fun _ _ _ h => h) (yl_move (by rfl) _ (by rfl) _ (by rfl)) hH ?_
    change wpAnyH _ _ _ _ _ _ _ (Act.put _ (some 31) _) _
    simp only [Act.put, List.setIfInBounds_toArray, List.set_cons_zero, List.set_cons_succ]
    refine wpAnyH_take (i := 12) (v := (.agg CM)) rfl (by kernel_rfl) (by kernel_rfl) (by kernel_rfl) (fun _ _ _ h => h) (yl_load (by rfl) _ (by rfl) _ CM (by rfl) (fun W hS => ld_row AT CZ.out (RT.out W hS))) hH ?_
    change wpAnyH _ _ _ _ _ _ _ (Act.put _ (some 32) _) _
    simp only [Act.put, List.setIfInBounds_toArray, List.set_cons_zero, List.set_cons_succ]
    refine wpAnyH_take (i := 13) (v := (.pointer (some ⟨w.heap.size + 1, 2, none⟩))) rfl (by kernel_rfl) (by kernel_rfl) (by kernel_rfl) (fun _ _ _ h => h) (.inl ⟨by rfl, fun W _ => by go_simp⟩) hH ?_
    change wpAnyH _ _ _ _ _ _ _ (Act.put _ (some 33) _) _
    simp only [Act.put, List.setIfInBounds_toArray, List.set_cons_zero, List.set_cons_succ]
    refine wpAnyH_take (i := 14) (v := (.int .i64 h)) rfl (by kernel_rfl) (by kernel_rfl) (by kernel_rfl) (fun _ _ _ h => h) (.inl ⟨by rfl, fun W hS => by have c4 := (CW.out W hS).2.2.1; go_simp⟩) hH ?_
    change wpAnyH _ _ _ _ _ _ _ (Act.put _ (some 34) _) _
    simp only [Act.put, List.setIfInBounds_toArray, List.set_cons_zero, List.set_cons_succ]
    refine wpAnyH_take (i := 15) (v := (.pointer (some ⟨w.heap.size + 1, 3, none⟩))) rfl (by kernel_rfl) (by kernel_rfl) (by kernel_rfl) (fun _ _ _ h => h) (.inl ⟨by rfl, fun W _ => by go_simp⟩) hH ?_
    change wpAnyH _ _ _ _ _ _ _ (Act.put _ (some 35) _) _
    simp only [Act.put, List.setIfInBounds_toArray, List.set_cons_zero, List.set_cons_succ]
    refine wpAnyH_take (i := 16) (v := (.int .u32 (tt.toNat : Int))) rfl (by kernel_rfl) (by kernel_rfl) (by kernel_rfl) (fun _ _ _ h => h) (.inl ⟨by rfl, fun W hS => by have c4 := (CW.out W hS).2.2.2; go_simp⟩) hH ?_
    change wpAnyH _ _ _ _ _ _ _ (Act.put _ (some 36) _) _
    simp only [Act.put, List.setIfInBounds_toArray, List.set_cons_zero, List.set_cons_succ]
    refine wpAnyH_take (i := 18) (v := (.agg CM)) rfl (by kernel_rfl) (by kernel_rfl) (by kernel_rfl) (fun _ _ _ h => h) (yl_load (by rfl) _ (by rfl) _ CM (by rfl) (fun W hS => ld_row AT CZ.out (RT.out W hS))) hH ?_
    change wpAnyH _ _ _ _ _ _ _ (Act.put _ (some 38) _) _
    simp only [Act.put, List.setIfInBounds_toArray, List.set_cons_zero, List.set_cons_succ]
    refine wpAnyH_take (i := 20) (v := (.pointer (some ⟨w.heap.size + 1, 2, none⟩))) rfl (by kernel_rfl) (by kernel_rfl) (by kernel_rfl) (fun _ _ _ h => h) (.inl ⟨by rfl, fun W _ => by go_simp⟩) hH ?_
    change wpAnyH _ _ _ _ _ _ _ (Act.put _ (some 40) _) _
    simp only [Act.put, List.setIfInBounds_toArray, List.set_cons_zero, List.set_cons_succ]
    refine wpAnyH_take (i := 21) (v := (.int .i64 h)) rfl (by kernel_rfl) (by kernel_rfl) (by kernel_rfl) (fun _ _ _ h => h) (.inl ⟨by rfl, fun W hS => by have c4 := (CW.out W hS).2.2.1; go_simp⟩) hH ?_
    change wpAnyH _ _ _ _ _ _ _ (Act.put _ (some 41) _) _
    simp only [Act.put, List.setIfInBounds_toArray, List.set_cons_zero, List.set_cons_succ]
    refine wpAnyH_take (i := 22) (v := (.int .i64 (max h 0))) rfl (by kernel_rfl) (by kernel_rfl) (by kernel_rfl) (fun _ _ _ h => h) (.inl ⟨by rfl, fun W _ => by go_simp; split <;> omega⟩) hH ?_
    change wpAnyH _ _ _ _ _ _ _ (Act.put _ (some 42) _) _
    simp only [Act.put, List.setIfInBounds_toArray, List.set_cons_zero, List.set_cons_succ]
    refine wpAnyH_take (i := 23) (v := (.pointer (some ⟨w.heap.size + 1, 3, none⟩))) rfl (by kernel_rfl) (by kernel_rfl) (by kernel_rfl) (fun _ _ _ h => h) (.inl ⟨by rfl, fun W _ => by go_simp⟩) hH ?_
    change wpAnyH _ _ _ _ _ _ _ (Act.put _ (some 43) _) _
    simp only [Act.put, List.setIfInBounds_toArray, List.set_cons_zero, List.set_cons_succ]
    refine wpAnyH_take (i := 24) (v := (.int .u32 (tt.toNat : Int))) rfl (by kernel_rfl) (by kernel_rfl) (by kernel_rfl) (fun _ _ _ h => h) (.inl ⟨by rfl, fun W hS => by have c4 := (CW.out W hS).2.2.2; go_simp⟩) hH ?_
    change wpAnyH _ _ _ _ _ _ _ (Act.put _ (some 44) _) _
    simp only [Act.put, List.setIfInBounds_toArray, List.set_cons_zero, List.set_cons_succ]
    refine wpAnyH_ready (rs := [17]) (by kernel_rfl) (by simp) (AllReadyH.cons rfl (fun K1 hK1 => ?_) AllReadyH.nil)
    go_simp
    refine (HN.out V4 D4.out).mono ?_
    rintro r V5 ⟨rfl, be⟩
    have D5 := hide (below_next D4.out be)
    clear be
    refine hK1.out _ _ D5.out (fun hH => ?_)
    clear hK1
    refine wpAnyH_ready (rs := [19]) (by kernel_rfl) (by simp) (AllReadyH.cons rfl (fun K1 hK1 => ?_) AllReadyH.nil)
    go_simp
    refine (HG.out V5 D5.out).mono ?_
    rintro r V6 ⟨bi, di, bo, d0, rfl, lr, be⟩
    have D6 := hide (below_next D5.out be)
    have LRR := hide lr
    clear be lr
    refine hK1.out _ _ D6.out (fun hH => ?_)
    clear hK1
    refine wpAnyH_ready (rs := [25]) (by kernel_rfl) (by simp) (AllReadyH.cons rfl (fun K1 hK1 => ?_) AllReadyH.nil)
    go_simp
    refine (HM.out V6 bi di bo d0 LRR.out).mono ?_
    rintro r V7 ⟨rfl, be⟩
    have D7 := hide (below_next D6.out be)
    clear be
    refine hK1.out _ _ D7.out (fun hH => ?_)
    clear hK1
    have hq2 : (finB m h (tt.toNat : Int) != finB m h (tt.toNat : Int)) = false := by simp
    refine wpAnyH_take (i := 26) (v := (.bool false)) rfl (by kernel_rfl) (by kernel_rfl) (by kernel_rfl) (fun _ _ _ h => h) (.inl ⟨by rfl, fun W _ => by go_simp⟩) hH ?_
    change wpAnyH _ _ _ _ _ _ _ (Act.put _ (some 46) _) _
    simp only [Act.put, List.setIfInBounds_toArray, List.set_cons_zero, List.set_cons_succ]
    refine wpAnyH_take (i := 27) (v := (.bool false)) rfl (by kernel_rfl) (by kernel_rfl) (by kernel_rfl) (fun _ _ _ h => h) (.inl ⟨by rfl, fun W _ => by go_simp⟩) hH ?_
    change wpAnyH _ _ _ _ _ _ _ (Act.put _ (some 47) _) _
    simp only [Act.put, List.setIfInBounds_toArray, List.set_cons_zero, List.set_cons_succ]
    refine wpAnyH_done (by kernel_rfl) ?_ _
    clear hH hq1 hq2 LRR HM HG HN HP
    obtain ⟨w0, w1, w2, w3⟩ := CW.out _ D7.out
    clear w2 w3
    obtain ⟨k, rfl⟩ := Int.eq_ofNat_of_zero_le hn.1
    have hk2 : k ≤ 32 := by omega
    have g1 : decide (32 < k) = false := decide_eq_false (by omega)
    have g2 : (k : Int) ≤ 32 := hn.2
    have g0 : (0 : Int) ≤ (k : Int) := hn.1
    clear hn
    rw [Int.toNat_natCast]
    have CV : Hid (∀ W g, W.heap[g]? = some (.cells (hc (dg2 key)) 30 (0, 0)) → (convert 53 9 (.slice (some ⟨g, 0, none⟩) k 32)).run Tryd.prog W = .ok (.string (lockT key k)) W) := fun W g h => by
      have := conv_part W g (dg2 key) 0 k 32 (by rw [dg2_len]; omega) 30 h
      rw [List.drop_zero] at this
      exact this
    have HQ : Hid (∀ W, Kg W → Calls Tryd.prog 14 #[.string (lockT key k), .string key] W fun e w' => e = .returned (.bool true) ∧ Below W.heap.size W w') := fun W g => by
      have := HO.out W (lockT key k) g
      rwa [opB_lock key k hk2] at this
    have hll : ((lockT key k).toList == (lockT key k).toList) = true := by simp
    clear HO
    generalize lockT key k = lt at *
    generalize dg2 key = DD at *
    go_upto_region 8 with (first | (go_at_call 18; refine (HT.out _).mono ?_; rintro r V8 ⟨rfl, be⟩; have D8 := hide (below_next D7.out be); clear be) | ((with_reducible refine at_list ?_); first | refine wpList_allocA A24 rfl rfl ?_ | refine wpList_store_newA A24 rfl _ _ rfl _ rfl (hc DD) HCZ.out HC1.out rfl rfl ?_))
    have cv := CV.out _ _ (heap_alloc_last V8 (.cells (hc DD) 30))
    have D9 := hide (below_next D8.out ((Below.refl _ _).alloc (Nat.le_refl _) (.cells (hc DD) 30)))
    clear w0 w1
    obtain ⟨w0, w1, w2, w3⟩ := CW.out _ D9.out
    clear w0 w2 w3
    generalize V8.alloc (.cells (hc DD) 30) = V9 at *
    go_wp2_with (go_at_call 14; refine (HQ.out _ (KK.out.next D9.out)).mono ?_; rintro r V10 ⟨rfl, be⟩; have D10 := hide (below_next D9.out be); clear be)
    go_ret
    exact ⟨rfl, BT.out _ D10.out⟩
  · go_upto_region 3 with (go_at_call 13; refine (HU.out _ hn).mono ?_; rintro r W0 ⟨rfl, rfl⟩)
    clear v0 v1
    have KK := KS
    have RT : Hid (∀ W, Below W0.heap.size W0 W → W.heap[w.heap.size]? = some (.cells CM 26 (0, 0))) := fun W b => (b.block _ (lt_heap R1.out)).trans R1.out
    have CW : Hid (∀ W, Below W0.heap.size W0 W → W.cell? ⟨w.heap.size + 1, 0, none⟩ = some (.string lk) ∧ W.cell? ⟨w.heap.size + 1, 1, none⟩ = some (.int .i64 n) ∧ W.cell? ⟨w.heap.size + 1, 2, none⟩ = some (.int .i64 h) ∧ W.cell? ⟨w.heap.size + 1, 3, none⟩ = some (.int .u32 (tt.toNat : Int))) := fun W b => by
      have q := (b.block _ (lt_heap R2.out)).trans R2.out
      refine ⟨?_, ?_, ?_, ?_⟩ <;> (rw [cell_of_row _ _ _ _ _ _ q]; rfl)
    have HN := hide (fun W (b : Below W0.heap.size W0 W) => HFin.out W (HL.out.below b))
    have HG := hide (fun W (b : Below W0.heap.size W0 W) => HGiv.out W (HL.out.below b))
    have BT := hide (fun W (b : Below W0.heap.size W0 W) => below_next B0.out b)
    clear HFin HGiv HL B0 R1 R2 KS HI HU HMX HF
    have BD := hide ((Below.refl W0.heap.size W0).drew)
    refine wp_region_held_drew (S := fun W => Below W0.heap.size W0 W) (by kernel_rfl) BD.out (fun hH => ?_)
    generalize hWd : W0.drew = V1 at *
    clear hWd
    refine wpAnyH_ready (rs := [0]) (by kernel_rfl) (by simp) (AllReadyH.cons rfl (fun K1 hK1 => ?_) AllReadyH.nil)
    go_simp
    refine (awake10 V1).mono ?_
    rintro r V2 ⟨rfl, be⟩
    have D2 := hide (below_next BD.out be)
    clear be
    refine hK1.out _ _ D2.out (fun hH => ?_)
    clear hK1
    refine wpAnyH_take (i := 1) (v := (.bool false)) rfl (by kernel_rfl) (by kernel_rfl) (by kernel_rfl) (fun _ _ _ h => h) (.inl ⟨by rfl, fun W _ => by go_simp⟩) hH ?_
    change wpAnyH _ _ _ _ _ _ _ (Act.put _ (some 21) _) _
    simp only [Act.put, List.setIfInBounds_toArray, List.set_cons_zero, List.set_cons_succ]
    refine wpAnyH_take (i := 2) (v := (.bool false)) rfl (by kernel_rfl) (by kernel_rfl) (by kernel_rfl) (fun _ _ _ h => h) (yl_move (by rfl) _ (by rfl) _ (by rfl)) hH ?_
    change wpAnyH _ _ _ _ _ _ _ (Act.put _ (some 22) _) _
    simp only [Act.put, List.setIfInBounds_toArray, List.set_cons_zero, List.set_cons_succ]
    refine wpAnyH_take (i := 3) (v := (.string lk)) rfl (by kernel_rfl) (by kernel_rfl) (by kernel_rfl) (fun _ _ _ h => h) (yl_move (by rfl) _ (by rfl) _ (by rfl)) hH ?_
    change wpAnyH _ _ _ _ _ _ _ (Act.put _ (some 23) _) _
    simp only [Act.put, List.setIfInBounds_toArray, List.set_cons_zero, List.set_cons_succ]
    refine wpAnyH_take (i := 4) (v := (.string key)) rfl (by kernel_rfl) (by kernel_rfl) (by kernel_rfl) (fun _ _ _ h => h) (yl_move (by rfl) _ (by rfl) _ (by rfl)) hH ?_
    change wpAnyH _ _ _ _ _ _ _ (Act.put _ (some 24) _) _
    simp only [Act.put, List.setIfInBounds_toArray, List.set_cons_zero, List.set_cons_succ]
    refine wpAnyH_take (i := 6) (v := (.string lk)) rfl (by kernel_rfl) (by kernel_rfl) (by kernel_rfl) (fun _ _ _ h => h) (yl_move (by rfl) _ (by rfl) _ (by rfl)) hH ?_
    change wpAnyH _ _ _ _ _ _ _ (Act.put _ (some 26) _) _
    simp only [Act.put, List.setIfInBounds_toArray, List.set_cons_zero, List.set_cons_succ]
    refine wpAnyH_take (i := 7) (v := (.string key)) rfl (by kernel_rfl) (by kernel_rfl) (by kernel_rfl) (fun _ _ _ h => h) (yl_move (by rfl) _ (by rfl) _ (by rfl)) hH ?_
    change wpAnyH _ _ _ _ _ _ _ (Act.put _ (some 27) _) _
    simp only [Act.put, List.setIfInBounds_toArray, List.set_cons_zero, List.set_cons_succ]
    refine wpAnyH_ready (rs := [5]) (by kernel_rfl) (by simp) (AllReadyH.cons rfl (fun K1 hK1 => ?_) AllReadyH.nil)
    go_simp
    refine (HO.out V2 lk (KK.out.next D2.out)).mono ?_
    rintro r V3 ⟨rfl, be⟩
    have D3 := hide (below_next D2.out be)
    clear be
    refine hK1.out _ _ D3.out (fun hH => ?_)
    clear hK1
    refine wpAnyH_ready (rs := [8]) (by kernel_rfl) (by simp) (AllReadyH.cons rfl (fun K1 hK1 => ?_) AllReadyH.nil)
    go_simp
    refine (HP.out V3).mono ?_
    rintro r V4 ⟨rfl, be⟩
    have D4 := hide (below_next D3.out be)
    clear be
    refine hK1.out _ _ D4.out (fun hH => ?_)
    clear hK1
    have hq1 : (opB lk key != opB lk key) = false := by simp
    refine wpAnyH_take (i := 9) (v := (.bool false)) rfl (by kernel_rfl) (by kernel_rfl) (by kernel_rfl) (fun _ _ _ h => h) (.inl ⟨by rfl, fun W _ => by go_simp⟩) hH ?_
    change wpAnyH _ _ _ _ _ _ _ (Act.put _ (some 29) _) _
    simp only [Act.put, List.setIfInBounds_toArray, List.set_cons_zero, List.set_cons_succ]
    refine wpAnyH_take (i := 10) (v := (.bool false)) rfl (by kernel_rfl) (by kernel_rfl) (by kernel_rfl) (fun _ _ _ h => h) (.inl ⟨by rfl, fun W _ => by go_simp⟩) hH ?_
    change wpAnyH _ _ _ _ _ _ _ (Act.put _ (some 30) _) _
    simp only [Act.put, List.setIfInBounds_toArray, List.set_cons_zero, List.set_cons_succ]
    refine wpAnyH_take (i := 11) (v := (.bool false)) rfl (by kernel_rfl) (by kernel_rfl) (by kernel_rfl) (fun _ _ _ h => h) (yl_move (by rfl) _ (by rfl) _ (by rfl)) hH ?_
    change wpAnyH _ _ _ _ _ _ _ (Act.put _ (some 31) _) _
    simp only [Act.put, List.setIfInBounds_toArray, List.set_cons_zero, List.set_cons_succ]
    refine wpAnyH_take (i := 12) (v := (.agg CM)) rfl (by kernel_rfl) (by kernel_rfl) (by kernel_rfl) (fun _ _ _ h => h) (yl_load (by rfl) _ (by rfl) _ CM (by rfl) (fun W hS => ld_row AT CZ.out (RT.out W hS))) hH ?_
    change wpAnyH _ _ _ _ _ _ _ (Act.put _ (some 32) _) _
    simp only [Act.put, List.setIfInBounds_toArray, List.set_cons_zero, List.set_cons_succ]
    refine wpAnyH_take (i := 13) (v := (.pointer (some ⟨w.heap.size + 1, 2, none⟩))) rfl (by kernel_rfl) (by kernel_rfl) (by kernel_rfl) (fun _ _ _ h => h) (.inl ⟨by rfl, fun W _ => by go_simp⟩) hH ?_
    change wpAnyH _ _ _ _ _ _ _ (Act.put _ (some 33) _) _
    simp only [Act.put, List.setIfInBounds_toArray, List.set_cons_zero, List.set_cons_succ]
    refine wpAnyH_take (i := 14) (v := (.int .i64 h)) rfl (by kernel_rfl) (by kernel_rfl) (by kernel_rfl) (fun _ _ _ h => h) (.inl ⟨by rfl, fun W hS => by have c4 := (CW.out W hS).2.2.1; go_simp⟩) hH ?_
    change wpAnyH _ _ _ _ _ _ _ (Act.put _ (some 34) _) _
    simp only [Act.put, List.setIfInBounds_toArray, List.set_cons_zero, List.set_cons_succ]
    refine wpAnyH_take (i := 15) (v := (.pointer (some ⟨w.heap.size + 1, 3, none⟩))) rfl (by kernel_rfl) (by kernel_rfl) (by kernel_rfl) (fun _ _ _ h => h) (.inl ⟨by rfl, fun W _ => by go_simp⟩) hH ?_
    change wpAnyH _ _ _ _ _ _ _ (Act.put _ (some 35) _) _
    simp only [Act.put, List.setIfInBounds_toArray, List.set_cons_zero, List.set_cons_succ]
    refine wpAnyH_take (i := 16) (v := (.int .u32 (tt.toNat : Int))) rfl (by kernel_rfl) (by kernel_rfl) (by kernel_rfl) (fun _ _ _ h => h) (.inl ⟨by rfl, fun W hS => by have c4 := (CW.out W hS).2.2.2; go_simp⟩) hH ?_
    change wpAnyH _ _ _ _ _ _ _ (Act.put _ (some 36) _) _
    simp only [Act.put, List.setIfInBounds_toArray, List.set_cons_zero, List.set_cons_succ]
    refine wpAnyH_take (i := 18) (v := (.agg CM)) rfl (by kernel_rfl) (by kernel_rfl) (by kernel_rfl) (fun _ _ _ h => h) (yl_load (by rfl) _ (by rfl) _ CM (by rfl) (fun W hS => ld_row AT CZ.out (RT.out W hS))) hH ?_
    change wpAnyH _ _ _ _ _ _ _ (Act.put _ (some 38) _) _
    simp only [Act.put, List.setIfInBounds_toArray, List.set_cons_zero, List.set_cons_succ]
    refine wpAnyH_take (i := 20) (v := (.pointer (some ⟨w.heap.size + 1, 2, none⟩))) rfl (by kernel_rfl) (by kernel_rfl) (by kernel_rfl) (fun _ _ _ h => h) (.inl ⟨by rfl, fun W _ => by go_simp⟩) hH ?_
    change wpAnyH _ _ _ _ _ _ _ (Act.put _ (some 40) _) _
    simp only [Act.put, List.setIfInBounds_toArray, List.set_cons_zero, List.set_cons_succ]
    refine wpAnyH_take (i := 21) (v := (.int .i64 h)) rfl (by kernel_rfl) (by kernel_rfl) (by kernel_rfl) (fun _ _ _ h => h) (.inl ⟨by rfl, fun W hS => by have c4 := (CW.out W hS).2.2.1; go_simp⟩) hH ?_
    change wpAnyH _ _ _ _ _ _ _ (Act.put _ (some 41) _) _
    simp only [Act.put, List.setIfInBounds_toArray, List.set_cons_zero, List.set_cons_succ]
    refine wpAnyH_take (i := 22) (v := (.int .i64 (max h 0))) rfl (by kernel_rfl) (by kernel_rfl) (by kernel_rfl) (fun _ _ _ h => h) (.inl ⟨by rfl, fun W _ => by go_simp; split <;> omega⟩) hH ?_
    change wpAnyH _ _ _ _ _ _ _ (Act.put _ (some 42) _) _
    simp only [Act.put, List.setIfInBounds_toArray, List.set_cons_zero, List.set_cons_succ]
    refine wpAnyH_take (i := 23) (v := (.pointer (some ⟨w.heap.size + 1, 3, none⟩))) rfl (by kernel_rfl) (by kernel_rfl) (by kernel_rfl) (fun _ _ _ h => h) (.inl ⟨by rfl, fun W _ => by go_simp⟩) hH ?_
    change wpAnyH _ _ _ _ _ _ _ (Act.put _ (some 43) _) _
    simp only [Act.put, List.setIfInBounds_toArray, List.set_cons_zero, List.set_cons_succ]
    refine wpAnyH_take (i := 24) (v := (.int .u32 (tt.toNat : Int))) rfl (by kernel_rfl) (by kernel_rfl) (by kernel_rfl) (fun _ _ _ h => h) (.inl ⟨by rfl, fun W hS => by have c4 := (CW.out W hS).2.2.2; go_simp⟩) hH ?_
    change wpAnyH _ _ _ _ _ _ _ (Act.put _ (some 44) _) _
    simp only [Act.put, List.setIfInBounds_toArray, List.set_cons_zero, List.set_cons_succ]
    refine wpAnyH_ready (rs := [17]) (by kernel_rfl) (by simp) (AllReadyH.cons rfl (fun K1 hK1 => ?_) AllReadyH.nil)
    go_simp
    refine (HN.out V4 D4.out).mono ?_
    rintro r V5 ⟨rfl, be⟩
    have D5 := hide (below_next D4.out be)
    clear be
    refine hK1.out _ _ D5.out (fun hH => ?_)
    clear hK1
    refine wpAnyH_ready (rs := [19]) (by kernel_rfl) (by simp) (AllReadyH.cons rfl (fun K1 hK1 => ?_) AllReadyH.nil)
    go_simp
    refine (HG.out V5 D5.out).mono ?_
    rintro r V6 ⟨bi, di, bo, d0, rfl, lr, be⟩
    have D6 := hide (below_next D5.out be)
    have LRR := hide lr
    clear be lr
    refine hK1.out _ _ D6.out (fun hH => ?_)
    clear hK1
    refine wpAnyH_ready (rs := [25]) (by kernel_rfl) (by simp) (AllReadyH.cons rfl (fun K1 hK1 => ?_) AllReadyH.nil)
    go_simp
    refine (HM.out V6 bi di bo d0 LRR.out).mono ?_
    rintro r V7 ⟨rfl, be⟩
    have D7 := hide (below_next D6.out be)
    clear be
    refine hK1.out _ _ D7.out (fun hH => ?_)
    clear hK1
    have hq2 : (finB m h (tt.toNat : Int) != finB m h (tt.toNat : Int)) = false := by simp
    refine wpAnyH_take (i := 26) (v := (.bool false)) rfl (by kernel_rfl) (by kernel_rfl) (by kernel_rfl) (fun _ _ _ h => h) (.inl ⟨by rfl, fun W _ => by go_simp⟩) hH ?_
    change wpAnyH _ _ _ _ _ _ _ (Act.put _ (some 46) _) _
    simp only [Act.put, List.setIfInBounds_toArray, List.set_cons_zero, List.set_cons_succ]
    refine wpAnyH_take (i := 27) (v := (.bool false)) rfl (by kernel_rfl) (by kernel_rfl) (by kernel_rfl) (fun _ _ _ h => h) (.inl ⟨by rfl, fun W _ => by go_simp⟩) hH ?_
    change wpAnyH _ _ _ _ _ _ _ (Act.put _ (some 47) _) _
    simp only [Act.put, List.setIfInBounds_toArray, List.set_cons_zero, List.set_cons_succ]
    refine wpAnyH_done (by kernel_rfl) ?_ _
    clear hH hq1 hq2 LRR HM HG HN HP
    obtain ⟨w0, w1, w2, w3⟩ := CW.out _ D7.out
    clear w2 w3
    by_cases h1 : n < 0
    · clear hn
      go_wp2
      go_ret
      exact ⟨rfl, BT.out _ D7.out⟩
    · have h2 : n > 32 := by omega
      clear hn
      go_wp2
      go_ret
      exact ⟨rfl, BT.out _ D7.out⟩
end
end Go.Proofs.YtfldpejdpinppaaDoor
