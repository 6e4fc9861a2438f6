/- The document's bytes: flag, net, count, raw. The document's Same: its contract, by the first field that is another. -/
import Derived.Test.YtkoidjaaojmcnaaGreatM21
import Derived.Test.YtkoidjaaojmcnaaGreatM08
namespace Go.Proofs.YtkoidjaaojmcnaaGreat
open Go.RowKit
open Go.Deep
theorem txt_app (a b : List UInt8) : txt a ++ txt b = txt (a ++ b) := by
  apply ByteArray.ext
  simp [txt]
theorem txt_sz (a : List UInt8) : (txt a).size = a.length := by show a.toArray.size = _; simp
section
set_option maxRecDepth 10000
set_option maxHeartbeats 4000000
theorem rflag_any (b : Bool) (w : World) : Calls Tryz.prog 67 #[.bool b] w fun e w' => e = .returned (.string (txt (flagL b))) ∧ w' = w := by
  cases b
  · go_enter Tryz.func67, Tryz.ntmps67
    go_wp2
    go_ret
    exact ⟨by rfl, rfl⟩
  · go_enter Tryz.func67, Tryz.ntmps67
    go_wp2
    go_ret
    exact ⟨by rfl, rfl⟩
theorem rcount9 (n : Nat) (hn : n ≤ 9223372036854775807) (w : World) : Calls Tryz.prog 68 #[.int .i64 (n : Int)] w fun e w' => e = .returned (.string (txt (countL n))) ∧ Below w.heap.size w w' := by
  have HC := hide (rcount_any n (by unfold U64; omega) w)
  have e1 : IntKind.u64.wrap (n : Int) = (n : Int) := wrapu _ (by omega) (by omega)
  clear hn
  go_enter Tryz.func68, Tryz.ntmps68
  go_wp2_with (go_at_call 110; with_reducible refine HC.out.mono ?_; rintro e W1 ⟨rfl, be⟩; have B1 := hide be; clear be)
  go_ret
  exact ⟨rfl, B1.out⟩
theorem rraw_any (x : ByteArray) (hx : x.size ≤ 4096) (w : World) : Calls Tryz.prog 66 #[.string x] w fun e w' => e = .returned (.string (txt (rawL x))) ∧ Below w.heap.size w w' := by
  have HC := hide (rcount9 x.size (by omega) w)
  have hl : (txt (countL x.size)).size ≤ 9 := by rw [txt_sz]; exact countL_9 _
  have E : Hid (txt (countL x.size) ++ x = txt (rawL x)) := by
    show _ = _
    rw [show x = txt x.data.toList from rfl, txt_app]
    rfl
  generalize txt (countL x.size) = c at *
  go_enter Tryz.func66, Tryz.ntmps66
  go_wp2_with (go_at_call 68; with_reducible refine HC.out.mono ?_; rintro e W1 ⟨rfl, be⟩; have B1 := hide be; clear be)
  go_ret
  exact ⟨by rw [← E.out]; rfl, B1.out⟩
theorem rnet_true (x : Nt) (w : World) : Calls Tryz.prog 65 #[.agg x.cells.toArray, .bool true] w fun e w' => e = .returned (.string (txt x.full)) ∧ Below w.heap.size w w' := by
  have bA : Below w.heap.size w (w.alloc (.cells x.cells.toArray 44)) := (Below.refl _ _).alloc (Nat.le_refl _) _
  have rA := heap_alloc_last w (.cells x.cells.toArray 44)
  have BA := hide bA
  have RA := hide rA
  have c0 : (w.alloc (.cells x.cells.toArray 44)).cell? ⟨w.heap.size, 0, none⟩ = some (.int .u32 (x.time.toNat : Int)) := by rw [cell_of_row _ _ _ _ _ _ rA]; rfl
  have ht := x.time.toNat_lt
  have hp := x.port.toNat_lt
  have e4 : IntKind.u64.wrap (x.time.toNat : Int) = (x.time.toNat : Int) := wrapu _ (by omega) (by omega)
  have e2 : IntKind.u64.wrap (x.port.toNat : Int) = (x.port.toNat : Int) := wrapu _ (by omega) (by omega)
  have L4 : Hid (∀ W, Calls Tryz.prog 64 #[.int .u64 (x.time.toNat : Int), .int .i64 4] W fun e w' => e = .returned (.string (txt (lowL x.time.toNat 4))) ∧ Below W.heap.size W w') := fun W => low_any x.time.toNat 4 4 rfl (by unfold U64; omega) W (by decide)
  have L8 : Hid (∀ W, Calls Tryz.prog 64 #[.int .u64 (x.serv.toNat : Int), .int .i64 8] W fun e w' => e = .returned (.string (txt (lowL x.serv.toNat 8))) ∧ Below W.heap.size W w') := fun W => low_any x.serv.toNat 8 8 rfl x.serv.toNat_lt W (by decide)
  have L2 : Hid (∀ W, Calls Tryz.prog 64 #[.int .u64 (x.port.toNat : Int), .int .i64 2] W fun e w' => e = .returned (.string (txt (lowL x.port.toNat 2))) ∧ Below W.heap.size W w') := fun W => low_any x.port.toNat 2 2 rfl (by unfold U64; omega) W (by decide)
  have LT : Hid (∀ W, Calls Tryz.prog 109 #[.string (txt (lowL x.port.toNat 2))] W fun e w' => e = .returned (.string (txt (lowL x.port.toNat 2).reverse)) ∧ w' = W) := fun W => turned_any (txt (lowL x.port.toNat 2)) (by rw [txt_sz, lowL_len]; decide) W
  have LEN : Hid ((txt (lowL x.serv.toNat 8)).size = 8 ∧ (txt x.ip).size = 16 ∧ (txt (lowL x.time.toNat 4)).size = 4 ∧ (txt (lowL x.port.toNat 2).reverse).size = 2) := ⟨by rw [txt_sz, lowL_len], by rw [txt_sz, x.hip], by rw [txt_sz, lowL_len], by rw [txt_sz, List.length_reverse, lowL_len]⟩
  have EQ : Hid (txt (lowL x.time.toNat 4) ++ txt (lowL x.serv.toNat 8) ++ txt x.ip ++ txt (lowL x.port.toNat 2).reverse = txt x.full) := by
    show _ = _
    rw [txt_app, txt_app, txt_app]
    simp [Nt.bytes, Nt.full]
  have HIP : Hid (∀ W : World, W.rangeAt w.heap.size 2 (cellsL x.ip) → (convert 95 9 (.slice (some ⟨w.heap.size, 2, none⟩) 16 16)).run Tryz.prog W = .ok (.string (txt x.ip)) W) := fun W h => conv_mid W w.heap.size 2 x.ip h 16 x.hip.symm
  generalize txt (lowL x.time.toNat 4) = t4 at *
  generalize txt (lowL x.serv.toNat 8) = t8 at *
  generalize txt x.ip = ti at *
  generalize txt (lowL x.port.toNat 2).reverse = tr at *
  generalize txt (lowL x.port.toNat 2) = t2 at *
  clear bA rA ht hp
  go_enter Tryz.func65, Tryz.ntmps65
  go_upto_region 4 with (first | (go_at_call 64; with_reducible refine (L4.out _).mono ?_; rintro e W1 ⟨rfl, be⟩; have B1 := hide (below_next BA.out be); have R1 := hide ((be.block _ (lt_heap RA.out)).trans RA.out); clear be) | (with_reducible refine at_list ?_; refine wpList_boxA rfl _ rfl x.cells.toArray rfl ?_))
  clear c0 BA RA
  have CC : Hid (∀ W, Below W1.heap.size W1 W → W.cell? ⟨w.heap.size, 1, none⟩ = some (.int .u64 (x.serv.toNat : Int)) ∧ W.cell? ⟨w.heap.size, 18, none⟩ = some (.int .u16 (x.port.toNat : Int)) ∧ (convert 95 9 (.slice (some ⟨w.heap.size, 2, none⟩) 16 16)).run Tryz.prog W = .ok (.string ti) W) := fun W b => by
    have hW := (b.block _ (lt_heap R1.out)).trans R1.out
    refine ⟨by rw [cell_of_row _ _ _ _ _ _ hW]; rfl, by rw [cell_of_row _ _ _ _ _ _ hW]; exact x.port_at, HIP.out W (fun j v hv => ?_)⟩
    have hj := (List.getElem?_eq_some_iff.1 hv).1
    rw [cellsL_len, x.hip] at hj
    rw [cell_of_row _ _ _ _ _ _ hW, List.getElem?_toArray, x.at_ip j hj]
    exact hv
  have BD := hide ((Below.refl W1.heap.size W1).drew)
  refine wp_region_held_drew (S := fun W => Below W1.heap.size W1 W) (by kernel_rfl) BD.out (fun hH => ?_)
  generalize hWd : W1.drew = W2 at *
  clear hWd
  refine wpAnyH_take (i := 0) (v := (.string t4)) rfl (by kernel_rfl) (by kernel_rfl) (by kernel_rfl) (fun _ _ _ h => h) (yl_move (by rfl) _ (by rfl) _ (by rfl)) hH ?_
  change wpAnyH _ _ _ _ _ _ _ (Act.put _ (some 11) _) _
  simp only [Act.put, List.setIfInBounds_toArray, List.set_cons_zero, List.set_cons_succ]
  refine wpAnyH_take (i := 1) (v := (.pointer (some ⟨w.heap.size, 1, none⟩))) rfl (by kernel_rfl) (by kernel_rfl) (by kernel_rfl) (fun _ _ _ h => h) (.inl ⟨by rfl, fun W _ => by go_simp⟩) hH ?_
  change wpAnyH _ _ _ _ _ _ _ (Act.put _ (some 12) _) _
  simp only [Act.put, List.setIfInBounds_toArray, List.set_cons_zero, List.set_cons_succ]
  refine wpAnyH_take (i := 2) (v := (.int .u64 (x.serv.toNat : Int))) rfl (by kernel_rfl) (by kernel_rfl) (by kernel_rfl) (fun _ _ _ h => h) (.inl ⟨by rfl, fun W hS => by have c4 := (CC.out W hS).1; go_simp⟩) hH ?_
  change wpAnyH _ _ _ _ _ _ _ (Act.put _ (some 13) _) _
  simp only [Act.put, List.setIfInBounds_toArray, List.set_cons_zero, List.set_cons_succ]
  refine wpAnyH_take (i := 5) (v := (.pointer (some ⟨w.heap.size, 2, none⟩))) rfl (by kernel_rfl) (by kernel_rfl) (by kernel_rfl) (fun _ _ _ h => h) (.inl ⟨by rfl, fun W _ => by go_simp⟩) hH ?_
  change wpAnyH _ _ _ _ _ _ _ (Act.put _ (some 16) _) _
  simp only [Act.put, List.setIfInBounds_toArray, List.set_cons_zero, List.set_cons_succ]
  refine wpAnyH_take (i := 6) (v := (.slice (some ⟨w.heap.size, 2, none⟩) 16 16)) rfl (by kernel_rfl) (by kernel_rfl) (by kernel_rfl) (fun _ _ _ h => h) (.inl ⟨by rfl, fun W _ => by go_simp⟩) hH ?_
  change wpAnyH _ _ _ _ _ _ _ (Act.put _ (some 17) _) _
  simp only [Act.put, List.setIfInBounds_toArray, List.set_cons_zero, List.set_cons_succ]
  refine wpAnyH_take (i := 7) (v := (.string ti)) rfl (by kernel_rfl) (by kernel_rfl) (by kernel_rfl) (fun _ _ _ h => h) (.inl ⟨by rfl, fun W hS => by have c4 := (CC.out W hS).2.2; go_simp⟩) hH ?_
  change wpAnyH _ _ _ _ _ _ _ (Act.put _ (some 18) _) _
  simp only [Act.put, List.setIfInBounds_toArray, List.set_cons_zero, List.set_cons_succ]
  refine wpAnyH_take (i := 9) (v := (.pointer (some ⟨w.heap.size, 18, none⟩))) rfl (by kernel_rfl) (by kernel_rfl) (by kernel_rfl) (fun _ _ _ h => h) (.inl ⟨by rfl, fun W _ => by go_simp⟩) hH ?_
  change wpAnyH _ _ _ _ _ _ _ (Act.put _ (some 20) _) _
  simp only [Act.put, List.setIfInBounds_toArray, List.set_cons_zero, List.set_cons_succ]
  refine wpAnyH_take (i := 10) (v := (.int .u16 (x.port.toNat : Int))) rfl (by kernel_rfl) (by kernel_rfl) (by kernel_rfl) (fun _ _ _ h => h) (.inl ⟨by rfl, fun W hS => by have c4 := (CC.out W hS).2.1; go_simp⟩) hH ?_
  change wpAnyH _ _ _ _ _ _ _ (Act.put _ (some 21) _) _
  simp only [Act.put, List.setIfInBounds_toArray, List.set_cons_zero, List.set_cons_succ]
  refine wpAnyH_take (i := 11) (v := (.int .u64 (x.port.toNat : Int))) rfl (by kernel_rfl) (by kernel_rfl) (by kernel_rfl) (fun _ _ _ h => h) (.inl ⟨by rfl, fun W _ => by go_simp⟩) hH ?_
  change wpAnyH _ _ _ _ _ _ _ (Act.put _ (some 22) _) _
  simp only [Act.put, List.setIfInBounds_toArray, List.set_cons_zero, List.set_cons_succ]
  refine wpAnyH_ready (rs := [3]) (by kernel_rfl) (by simp) (AllReadyH.cons rfl (fun K1 hK1 => ?_) AllReadyH.nil)
  go_simp
  with_reducible refine (L8.out W2).mono ?_
  rintro e W3 ⟨rfl, be⟩
  have B3 := hide (below_next BD.out be)
  clear be
  refine hK1.out _ _ B3.out (fun hH => ?_)
  clear hK1
  refine wpAnyH_take (i := 4) (v := (.string (t4 ++ t8))) rfl (by kernel_rfl) (by kernel_rfl) (by kernel_rfl) (fun _ _ _ h => h) (.inl ⟨by rfl, fun W _ => by obtain ⟨l8, li, l4, lr⟩ := LEN.out; go_simp⟩) hH ?_
  change wpAnyH _ _ _ _ _ _ _ (Act.put _ (some 15) _) _
  simp only [Act.put, List.setIfInBounds_toArray, List.set_cons_zero, List.set_cons_succ]
  refine wpAnyH_take (i := 8) (v := (.string (t4 ++ t8 ++ ti))) rfl (by kernel_rfl) (by kernel_rfl) (by kernel_rfl) (fun _ _ _ h => h) (.inl ⟨by rfl, fun W _ => by obtain ⟨l8, li, l4, lr⟩ := LEN.out; go_simp⟩) hH ?_
  change wpAnyH _ _ _ _ _ _ _ (Act.put _ (some 19) _) _
  simp only [Act.put, List.setIfInBounds_toArray, List.set_cons_zero, List.set_cons_succ]
  refine wpAnyH_ready (rs := [12]) (by kernel_rfl) (by simp) (AllReadyH.cons rfl (fun K1 hK1 => ?_) AllReadyH.nil)
  go_simp
  with_reducible refine (L2.out W3).mono ?_
  rintro e W4 ⟨rfl, be⟩
  have B4 := hide (below_next B3.out be)
  clear be
  refine hK1.out _ _ B4.out (fun hH => ?_)
  clear hK1
  refine wpAnyH_ready (rs := [13]) (by kernel_rfl) (by simp) (AllReadyH.cons rfl (fun K1 hK1 => ?_) AllReadyH.nil)
  go_simp
  with_reducible refine (LT.out W4).mono ?_
  rintro e W5 ⟨rfl, rfl⟩
  refine hK1.out _ _ B4.out (fun hH => ?_)
  clear hK1
  refine wpAnyH_take (i := 14) (v := (.string (t4 ++ t8 ++ ti ++ tr))) rfl (by kernel_rfl) (by kernel_rfl) (by kernel_rfl) (fun _ _ _ h => h) (.inl ⟨by rfl, fun W _ => by obtain ⟨l8, li, l4, lr⟩ := LEN.out; go_simp⟩) hH ?_
  change wpAnyH _ _ _ _ _ _ _ (Act.put _ (some 25) _) _
  simp only [Act.put, List.setIfInBounds_toArray, List.set_cons_zero, List.set_cons_succ]
  refine wpAnyH_ready (rs := [15]) (by kernel_rfl) (by simp) (AllReadyH.cons rfl (fun K1 hK1 => ?_) AllReadyH.nil)
  go_simp
  refine hK1.out _ _ B4.out (fun hH => ?_)
  clear hK1
  refine wpAnyH_done (by kernel_rfl) ?_ _
  clear hH CC L8 L2 LT L4 LEN
  go_wp2
  go_ret
  refine ⟨?_, below_next B1.out B4.out⟩
  rw [← EQ.out]
  rfl
theorem rnet_false (x : Nt) (w : World) : Calls Tryz.prog 65 #[.agg x.cells.toArray, .bool false] w fun e w' => e = .returned (.string (txt x.bytes)) ∧ Below w.heap.size w w' := by
  have bA : Below w.heap.size w (w.alloc (.cells x.cells.toArray 44)) := (Below.refl _ _).alloc (Nat.le_refl _) _
  have rA := heap_alloc_last w (.cells x.cells.toArray 44)
  have BA := hide bA
  have RA := hide rA
  have c0 : (w.alloc (.cells x.cells.toArray 44)).cell? ⟨w.heap.size, 0, none⟩ = some (.int .u32 (x.time.toNat : Int)) := by rw [cell_of_row _ _ _ _ _ _ rA]; rfl
  have ht := x.time.toNat_lt
  have hp := x.port.toNat_lt
  have e4 : IntKind.u64.wrap (x.time.toNat : Int) = (x.time.toNat : Int) := wrapu _ (by omega) (by omega)
  have e2 : IntKind.u64.wrap (x.port.toNat : Int) = (x.port.toNat : Int) := wrapu _ (by omega) (by omega)
  have L4 : Hid (∀ W, Calls Tryz.prog 64 #[.int .u64 (x.time.toNat : Int), .int .i64 4] W fun e w' => e = .returned (.string (txt (lowL x.time.toNat 4))) ∧ Below W.heap.size W w') := fun W => low_any x.time.toNat 4 4 rfl (by unfold U64; omega) W (by decide)
  have L8 : Hid (∀ W, Calls Tryz.prog 64 #[.int .u64 (x.serv.toNat : Int), .int .i64 8] W fun e w' => e = .returned (.string (txt (lowL x.serv.toNat 8))) ∧ Below W.heap.size W w') := fun W => low_any x.serv.toNat 8 8 rfl x.serv.toNat_lt W (by decide)
  have L2 : Hid (∀ W, Calls Tryz.prog 64 #[.int .u64 (x.port.toNat : Int), .int .i64 2] W fun e w' => e = .returned (.string (txt (lowL x.port.toNat 2))) ∧ Below W.heap.size W w') := fun W => low_any x.port.toNat 2 2 rfl (by unfold U64; omega) W (by decide)
  have LT : Hid (∀ W, Calls Tryz.prog 109 #[.string (txt (lowL x.port.toNat 2))] W fun e w' => e = .returned (.string (txt (lowL x.port.toNat 2).reverse)) ∧ w' = W) := fun W => turned_any (txt (lowL x.port.toNat 2)) (by rw [txt_sz, lowL_len]; decide) W
  have LEN : Hid ((txt (lowL x.serv.toNat 8)).size = 8 ∧ (txt x.ip).size = 16 ∧ (txt (lowL x.time.toNat 4)).size = 4 ∧ (txt (lowL x.port.toNat 2).reverse).size = 2) := ⟨by rw [txt_sz, lowL_len], by rw [txt_sz, x.hip], by rw [txt_sz, lowL_len], by rw [txt_sz, List.length_reverse, lowL_len]⟩
  have EQ : Hid ((⟨#[]⟩ : ByteArray) ++ txt (lowL x.serv.toNat 8) ++ txt x.ip ++ txt (lowL x.port.toNat 2).reverse = txt x.bytes) := by
    show _ = _
    rw [show (⟨#[]⟩ : ByteArray) = txt [] from rfl, txt_app, txt_app, txt_app]
    simp [Nt.bytes]
  have HIP : Hid (∀ W : World, W.rangeAt w.heap.size 2 (cellsL x.ip) → (convert 95 9 (.slice (some ⟨w.heap.size, 2, none⟩) 16 16)).run Tryz.prog W = .ok (.string (txt x.ip)) W) := fun W h => conv_mid W w.heap.size 2 x.ip h 16 x.hip.symm
  generalize txt (lowL x.time.toNat 4) = t4 at *
  generalize txt (lowL x.serv.toNat 8) = t8 at *
  generalize txt x.ip = ti at *
  generalize txt (lowL x.port.toNat 2).reverse = tr at *
  generalize txt (lowL x.port.toNat 2) = t2 at *
  clear bA rA ht hp
  go_enter Tryz.func65, Tryz.ntmps65
  go_upto_region 4 with (with_reducible refine at_list ?_; refine wpList_boxA rfl _ rfl x.cells.toArray rfl ?_)
  have B1 := BA
  have R1 := RA
  generalize w.alloc (.cells x.cells.toArray 44) = W1 at *
  clear c0 BA RA
  have CC : Hid (∀ W, Below W1.heap.size W1 W → W.cell? ⟨w.heap.size, 1, none⟩ = some (.int .u64 (x.serv.toNat : Int)) ∧ W.cell? ⟨w.heap.size, 18, none⟩ = some (.int .u16 (x.port.toNat : Int)) ∧ (convert 95 9 (.slice (some ⟨w.heap.size, 2, none⟩) 16 16)).run Tryz.prog W = .ok (.string ti) W) := fun W b => by
    have hW := (b.block _ (lt_heap R1.out)).trans R1.out
    refine ⟨by rw [cell_of_row _ _ _ _ _ _ hW]; rfl, by rw [cell_of_row _ _ _ _ _ _ hW]; exact x.port_at, HIP.out W (fun j v hv => ?_)⟩
    have hj := (List.getElem?_eq_some_iff.1 hv).1
    rw [cellsL_len, x.hip] at hj
    rw [cell_of_row _ _ _ _ _ _ hW, List.getElem?_toArray, x.at_ip j hj]
    exact hv
  have BD := hide ((Below.refl W1.heap.size W1).drew)
  refine wp_region_held_drew (S := fun W => Below W1.heap.size W1 W) (by kernel_rfl) BD.out (fun hH => ?_)
  generalize hWd : W1.drew = W2 at *
  clear hWd
  refine wpAnyH_take (i := 0) (v := (.string (⟨#[]⟩ : ByteArray))) rfl (by kernel_rfl) (by kernel_rfl) (by kernel_rfl) (fun _ _ _ h => h) (yl_move (by rfl) _ (by rfl) _ (by rfl)) hH ?_
  change wpAnyH _ _ _ _ _ _ _ (Act.put _ (some 11) _) _
  simp only [Act.put, List.setIfInBounds_toArray, List.set_cons_zero, List.set_cons_succ]
  refine wpAnyH_take (i := 1) (v := (.pointer (some ⟨w.heap.size, 1, none⟩))) rfl (by kernel_rfl) (by kernel_rfl) (by kernel_rfl) (fun _ _ _ h => h) (.inl ⟨by rfl, fun W _ => by go_simp⟩) hH ?_
  change wpAnyH _ _ _ _ _ _ _ (Act.put _ (some 12) _) _
  simp only [Act.put, List.setIfInBounds_toArray, List.set_cons_zero, List.set_cons_succ]
  refine wpAnyH_take (i := 2) (v := (.int .u64 (x.serv.toNat : Int))) rfl (by kernel_rfl) (by kernel_rfl) (by kernel_rfl) (fun _ _ _ h => h) (.inl ⟨by rfl, fun W hS => by have c4 := (CC.out W hS).1; go_simp⟩) hH ?_
  change wpAnyH _ _ _ _ _ _ _ (Act.put _ (some 13) _) _
  simp only [Act.put, List.setIfInBounds_toArray, List.set_cons_zero, List.set_cons_succ]
  refine wpAnyH_take (i := 5) (v := (.pointer (some ⟨w.heap.size, 2, none⟩))) rfl (by kernel_rfl) (by kernel_rfl) (by kernel_rfl) (fun _ _ _ h => h) (.inl ⟨by rfl, fun W _ => by go_simp⟩) hH ?_
  change wpAnyH _ _ _ _ _ _ _ (Act.put _ (some 16) _) _
  simp only [Act.put, List.setIfInBounds_toArray, List.set_cons_zero, List.set_cons_succ]
  refine wpAnyH_take (i := 6) (v := (.slice (some ⟨w.heap.size, 2, none⟩) 16 16)) rfl (by kernel_rfl) (by kernel_rfl) (by kernel_rfl) (fun _ _ _ h => h) (.inl ⟨by rfl, fun W _ => by go_simp⟩) hH ?_
  change wpAnyH _ _ _ _ _ _ _ (Act.put _ (some 17) _) _
  simp only [Act.put, List.setIfInBounds_toArray, List.set_cons_zero, List.set_cons_succ]
  refine wpAnyH_take (i := 7) (v := (.string ti)) rfl (by kernel_rfl) (by kernel_rfl) (by kernel_rfl) (fun _ _ _ h => h) (.inl ⟨by rfl, fun W hS => by have c4 := (CC.out W hS).2.2; go_simp⟩) hH ?_
  change wpAnyH _ _ _ _ _ _ _ (Act.put _ (some 18) _) _
  simp only [Act.put, List.setIfInBounds_toArray, List.set_cons_zero, List.set_cons_succ]
  refine wpAnyH_take (i := 9) (v := (.pointer (some ⟨w.heap.size, 18, none⟩))) rfl (by kernel_rfl) (by kernel_rfl) (by kernel_rfl) (fun _ _ _ h => h) (.inl ⟨by rfl, fun W _ => by go_simp⟩) hH ?_
  change wpAnyH _ _ _ _ _ _ _ (Act.put _ (some 20) _) _
  simp only [Act.put, List.setIfInBounds_toArray, List.set_cons_zero, List.set_cons_succ]
  refine wpAnyH_take (i := 10) (v := (.int .u16 (x.port.toNat : Int))) rfl (by kernel_rfl) (by kernel_rfl) (by kernel_rfl) (fun _ _ _ h => h) (.inl ⟨by rfl, fun W hS => by have c4 := (CC.out W hS).2.1; go_simp⟩) hH ?_
  change wpAnyH _ _ _ _ _ _ _ (Act.put _ (some 21) _) _
  simp only [Act.put, List.setIfInBounds_toArray, List.set_cons_zero, List.set_cons_succ]
  refine wpAnyH_take (i := 11) (v := (.int .u64 (x.port.toNat : Int))) rfl (by kernel_rfl) (by kernel_rfl) (by kernel_rfl) (fun _ _ _ h => h) (.inl ⟨by rfl, fun W _ => by go_simp⟩) hH ?_
  change wpAnyH _ _ _ _ _ _ _ (Act.put _ (some 22) _) _
  simp only [Act.put, List.setIfInBounds_toArray, List.set_cons_zero, List.set_cons_succ]
  refine wpAnyH_ready (rs := [3]) (by kernel_rfl) (by simp) (AllReadyH.cons rfl (fun K1 hK1 => ?_) AllReadyH.nil)
  go_simp
  with_reducible refine (L8.out W2).mono ?_
  rintro e W3 ⟨rfl, be⟩
  have B3 := hide (below_next BD.out be)
  clear be
  refine hK1.out _ _ B3.out (fun hH => ?_)
  clear hK1
  refine wpAnyH_take (i := 4) (v := (.string ((⟨#[]⟩ : ByteArray) ++ t8))) rfl (by kernel_rfl) (by kernel_rfl) (by kernel_rfl) (fun _ _ _ h => h) (.inl ⟨by rfl, fun W _ => by obtain ⟨l8, li, l4, lr⟩ := LEN.out; go_simp⟩) hH ?_
  change wpAnyH _ _ _ _ _ _ _ (Act.put _ (some 15) _) _
  simp only [Act.put, List.setIfInBounds_toArray, List.set_cons_zero, List.set_cons_succ]
  refine wpAnyH_take (i := 8) (v := (.string ((⟨#[]⟩ : ByteArray) ++ t8 ++ ti))) rfl (by kernel_rfl) (by kernel_rfl) (by kernel_rfl) (fun _ _ _ h => h) (.inl ⟨by rfl, fun W _ => by obtain ⟨l8, li, l4, lr⟩ := LEN.out; go_simp⟩) hH ?_
  change wpAnyH _ _ _ _ _ _ _ (Act.put _ (some 19) _) _
  simp only [Act.put, List.setIfInBounds_toArray, List.set_cons_zero, List.set_cons_succ]
  refine wpAnyH_ready (rs := [12]) (by kernel_rfl) (by simp) (AllReadyH.cons rfl (fun K1 hK1 => ?_) AllReadyH.nil)
  go_simp
  with_reducible refine (L2.out W3).mono ?_
  rintro e W4 ⟨rfl, be⟩
  have B4 := hide (below_next B3.out be)
  clear be
  refine hK1.out _ _ B4.out (fun hH => ?_)
  clear hK1
  refine wpAnyH_ready (rs := [13]) (by kernel_rfl) (by simp) (AllReadyH.cons rfl (fun K1 hK1 => ?_) AllReadyH.nil)
  go_simp
  with_reducible refine (LT.out W4).mono ?_
  rintro e W5 ⟨rfl, rfl⟩
  refine hK1.out _ _ B4.out (fun hH => ?_)
  clear hK1
  refine wpAnyH_take (i := 14) (v := (.string ((⟨#[]⟩ : ByteArray) ++ t8 ++ ti ++ tr))) rfl (by kernel_rfl) (by kernel_rfl) (by kernel_rfl) (fun _ _ _ h => h) (.inl ⟨by rfl, fun W _ => by obtain ⟨l8, li, l4, lr⟩ := LEN.out; go_simp⟩) hH ?_
  change wpAnyH _ _ _ _ _ _ _ (Act.put _ (some 25) _) _
  simp only [Act.put, List.setIfInBounds_toArray, List.set_cons_zero, List.set_cons_succ]
  refine wpAnyH_ready (rs := [15]) (by kernel_rfl) (by simp) (AllReadyH.cons rfl (fun K1 hK1 => ?_) AllReadyH.nil)
  go_simp
  refine hK1.out _ _ B4.out (fun hH => ?_)
  clear hK1
  refine wpAnyH_done (by kernel_rfl) ?_ _
  clear hH CC L8 L2 LT L4 LEN
  go_wp2
  go_ret
  refine ⟨?_, below_next B1.out B4.out⟩
  rw [← EQ.out]
  rfl
end
end Go.Proofs.YtkoidjaaojmcnaaGreat
namespace Go.Proofs.YtkoidjaaojmcnaaGreat
open Go.RowKit
open Go.Deep
attribute [local go_sem ↓] ldNr_eq ldHr_eq neqNr_eq neqHr_eq
section
set_option maxRecDepth 10000
set_option maxHeartbeats 40000000
theorem rsame_0 (a b : Mg) (sa sb : Vs) (w : World) (q0 : (a.kind == b.kind) = false) :
    Calls Tryz.prog 12 #[.agg (a.cells sa).toArray, .agg (b.cells sb).toArray] w fun e w' => e = .returned (.bool false) ∧ Below w.heap.size w w' := by
  have J0 := hide (Two.start 50 w a b sa sb)
  go_enter Tryz.func12, Tryz.ntmps12
  have hgN : Tryz.prog.eqGuardType Tryz.prog.depth 44 = false := by kernel_rfl
  have hgH : Tryz.prog.eqGuardType Tryz.prog.depth 31 = false := by kernel_rfl
  have eW : (w.alloc (.cells (a.cells sa).toArray 50)).heap.size = w.heap.size + 1 := by simp
  have x0 := J0.out.x.f0
  have y0 := J0.out.y.f0
  have n0 : (a.kind != b.kind) = true := by rw [bne, q0]; rfl
  go_upto_region 1 with (with_reducible refine at_list ?_; first | refine wpList_boxA rfl _ rfl (a.cells sa).toArray rfl ?_ | refine wpList_boxA rfl _ rfl (b.cells sb).toArray rfl ?_)
  simp only [List.append]
  go_wp2_with (with_reducible refine at_list ?_; first | refine wpList_boxA rfl _ rfl (a.cells sa).toArray rfl ?_ | refine wpList_boxA rfl _ rfl (b.cells sb).toArray rfl ?_)
  go_ret
  exact ⟨rfl, J0.out.bel⟩
theorem rsame_1 (a b : Mg) (sa sb : Vs) (w : World) (q0 : (a.kind == b.kind) = true) (q1 : ((a.vers.toNat : Int) == (b.vers.toNat : Int)) = false) :
    Calls Tryz.prog 12 #[.agg (a.cells sa).toArray, .agg (b.cells sb).toArray] w fun e w' => e = .returned (.bool false) ∧ Below w.heap.size w w' := by
  have J0 := hide (Two.start 50 w a b sa sb)
  go_enter Tryz.func12, Tryz.ntmps12
  have hgN : Tryz.prog.eqGuardType Tryz.prog.depth 44 = false := by kernel_rfl
  have hgH : Tryz.prog.eqGuardType Tryz.prog.depth 31 = false := by kernel_rfl
  have eW : (w.alloc (.cells (a.cells sa).toArray 50)).heap.size = w.heap.size + 1 := by simp
  have x0 := J0.out.x.f0
  have y0 := J0.out.y.f0
  have n0 : (a.kind != b.kind) = false := by rw [bne, q0]; rfl
  have x1 := J0.out.x.f1
  have y1 := J0.out.y.f1
  have n1 : ((a.vers.toNat : Int) != (b.vers.toNat : Int)) = true := by rw [bne, q1]; rfl
  go_upto_region 1 with (with_reducible refine at_list ?_; first | refine wpList_boxA rfl _ rfl (a.cells sa).toArray rfl ?_ | refine wpList_boxA rfl _ rfl (b.cells sb).toArray rfl ?_)
  simp only [List.append]
  go_wp2_with (with_reducible refine at_list ?_; first | refine wpList_boxA rfl _ rfl (a.cells sa).toArray rfl ?_ | refine wpList_boxA rfl _ rfl (b.cells sb).toArray rfl ?_)
  go_ret
  exact ⟨rfl, J0.out.bel⟩
theorem rsame_2 (a b : Mg) (sa sb : Vs) (w : World) (q0 : (a.kind == b.kind) = true) (q1 : ((a.vers.toNat : Int) == (b.vers.toNat : Int)) = true) (q2 : ((a.serv.toNat : Int) == (b.serv.toNat : Int)) = false) :
    Calls Tryz.prog 12 #[.agg (a.cells sa).toArray, .agg (b.cells sb).toArray] w fun e w' => e = .returned (.bool false) ∧ Below w.heap.size w w' := by
  have J0 := hide (Two.start 50 w a b sa sb)
  go_enter Tryz.func12, Tryz.ntmps12
  have hgN : Tryz.prog.eqGuardType Tryz.prog.depth 44 = false := by kernel_rfl
  have hgH : Tryz.prog.eqGuardType Tryz.prog.depth 31 = false := by kernel_rfl
  have eW : (w.alloc (.cells (a.cells sa).toArray 50)).heap.size = w.heap.size + 1 := by simp
  have x0 := J0.out.x.f0
  have y0 := J0.out.y.f0
  have n0 : (a.kind != b.kind) = false := by rw [bne, q0]; rfl
  have x1 := J0.out.x.f1
  have y1 := J0.out.y.f1
  have n1 : ((a.vers.toNat : Int) != (b.vers.toNat : Int)) = false := by rw [bne, q1]; rfl
  have x2 := J0.out.x.f2
  have y2 := J0.out.y.f2
  have n2 : ((a.serv.toNat : Int) != (b.serv.toNat : Int)) = true := by rw [bne, q2]; rfl
  go_upto_region 1 with (with_reducible refine at_list ?_; first | refine wpList_boxA rfl _ rfl (a.cells sa).toArray rfl ?_ | refine wpList_boxA rfl _ rfl (b.cells sb).toArray rfl ?_)
  simp only [List.append]
  go_wp2_with (with_reducible refine at_list ?_; first | refine wpList_boxA rfl _ rfl (a.cells sa).toArray rfl ?_ | refine wpList_boxA rfl _ rfl (b.cells sb).toArray rfl ?_)
  go_ret
  exact ⟨rfl, J0.out.bel⟩
theorem rsame_3 (a b : Mg) (sa sb : Vs) (w : World) (q0 : (a.kind == b.kind) = true) (q1 : ((a.vers.toNat : Int) == (b.vers.toNat : Int)) = true) (q2 : ((a.serv.toNat : Int) == (b.serv.toNat : Int)) = true) (q3 : ((a.nonce.toNat : Int) == (b.nonce.toNat : Int)) = false) :
    Calls Tryz.prog 12 #[.agg (a.cells sa).toArray, .agg (b.cells sb).toArray] w fun e w' => e = .returned (.bool false) ∧ Below w.heap.size w w' := by
  have J0 := hide (Two.start 50 w a b sa sb)
  go_enter Tryz.func12, Tryz.ntmps12
  have hgN : Tryz.prog.eqGuardType Tryz.prog.depth 44 = false := by kernel_rfl
  have hgH : Tryz.prog.eqGuardType Tryz.prog.depth 31 = false := by kernel_rfl
  have eW : (w.alloc (.cells (a.cells sa).toArray 50)).heap.size = w.heap.size + 1 := by simp
  have x0 := J0.out.x.f0
  have y0 := J0.out.y.f0
  have n0 : (a.kind != b.kind) = false := by rw [bne, q0]; rfl
  have x1 := J0.out.x.f1
  have y1 := J0.out.y.f1
  have n1 : ((a.vers.toNat : Int) != (b.vers.toNat : Int)) = false := by rw [bne, q1]; rfl
  have x2 := J0.out.x.f2
  have y2 := J0.out.y.f2
  have n2 : ((a.serv.toNat : Int) != (b.serv.toNat : Int)) = false := by rw [bne, q2]; rfl
  have x3 := J0.out.x.f3
  have y3 := J0.out.y.f3
  have n3 : ((a.nonce.toNat : Int) != (b.nonce.toNat : Int)) = true := by rw [bne, q3]; rfl
  go_upto_region 1 with (with_reducible refine at_list ?_; first | refine wpList_boxA rfl _ rfl (a.cells sa).toArray rfl ?_ | refine wpList_boxA rfl _ rfl (b.cells sb).toArray rfl ?_)
  simp only [List.append]
  go_wp2_with (with_reducible refine at_list ?_; first | refine wpList_boxA rfl _ rfl (a.cells sa).toArray rfl ?_ | refine wpList_boxA rfl _ rfl (b.cells sb).toArray rfl ?_)
  go_ret
  exact ⟨rfl, J0.out.bel⟩
end
end Go.Proofs.YtkoidjaaojmcnaaGreat
