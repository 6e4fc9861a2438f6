/- The law's awake (the locator of genesis); LocateNil's walk. block.Mine, whatever the header and the number of tries: its contract. -/
import Derived.Test.YtofddbjnncgmlaaGreatDoorX38
import Derived.Test.YtofddbjnncgmlaaGreatDoorX24
namespace Go.Proofs.YtofddbjnncgmlaaGreatDoor
open Go.RowKit
open Go.Deep
open Go.Maps
set_option linter.unusedVariables false
set_option linter.unusedSimpArgs false
theorem atG : ((DataW.map []).put (.string (gH.at 1).id) (.lit (.int .i64 0)) : DataW Unit).atKey (.string (gH.at 1).id) (.lit (.int .i64 0)) = .lit (.int .i64 0) := atKey_put_same ⟨_, rfl⟩ (by simp [WideAt.IsKeyLit]) _ _
theorem hasG : Maps.has ((DataW.map []).put (.string (gH.at 1).id) (.lit (.int .i64 0)) : DataW Unit) (.string (gH.at 1).id) = true := has_put_same ⟨_, rfl⟩ (by simp [WideAt.IsKeyLit]) _
section
set_option maxRecDepth 10000
set_option maxHeartbeats 4000000
theorem awake15 (w : World) (hK : Kg w) : Calls Tryz.prog 25 #[] w fun e w' => e = .returned (.bool true) ∧ Below w.heap.size w w' := by
  have HN := hide (newT_any w hK)
  have HG : Hid (∀ W, Kg W → Calls Tryz.prog 53 #[] W fun e w' => ∃ ao cap, e = .returned (.agg (bkA (gH.at 1) (.slice ao 1 cap))) ∧ Below W.heap.size W w') := fun W q => (genesis_any W q).mono (by rintro e w' ⟨ao, cap, y, rfl, _, _, be⟩; exact ⟨ao, cap, rfl, be⟩)
  have HI : Hid (∀ W, Kg W → Calls Tryz.prog 20 #[.agg (gH.at 1).cells.toArray] W fun e w' => e = .returned (.agg (hc (gH.at 1).id)) ∧ Below W.heap.size W w') := fun W q => hid_any (gH.at 1) W q
  have HM : Hid (∀ W gt gm ve, Tm4 w W gt gm 1 ((DataW.map []).put (.string (gH.at 1).id) (.lit (.int .i64 0))) ve [ndG] 1 0 0 → Calls Tryz.prog 91 #[.pointer (some ⟨gt, 0, none⟩), .agg (hc (gH.at 1).id)] W fun e w' => ∃ g, e = .returned (.tuple #[.slice (some ⟨g, 0, none⟩) 1 1, .int .i64 0]) ∧ w'.heap[g]? = some (.cells (hc (gH.at 1).id) 46 (0, 0)) ∧ Below W.heap.size W w') := fun W gt gm ve q => make1 q atG hasG rfl
  have KS : Hid (∀ W, Below w.heap.size w W → Kg W) := fun W b => hK.next b
  have IZ := hide (And.intro (show (hc (gH.at 1).id).size = 32 by rw [hc_size, Hd.id_len]) (hc_one (gH.at 1).id))
  have EI : Hid (∀ W, (Op.equalIn 10000 46 (.agg (hc (gH.at 1).id)) (.agg (hc (gH.at 1).id))).run Tryz.prog W = .ok true W) := fun W => by
    rw [eqH14 _ _ (Hd.id_len _) (Hd.id_len _)]
    simp
  have EG : Hid (Tryz.prog.eqGuardType Tryz.prog.depth 46 = false) := by show _ = _; kernel_rfl
  clear hK
  generalize (DataW.map []).put (.string (gH.at 1).id) (.lit (.int .i64 0)) = DD at *
  generalize gH.at 1 = HH at *
  generalize hc HH.id = ID at *
  go_enter Tryz.func25, Tryz.ntmps25
  go_upto_region 2 with (go_at_call 9; refine HN.out.mono ?_; rintro e W1 ⟨gt, gm, ve, rfl, t1⟩; have T1 := hide t1; clear t1)
  go_upto_region 3 with (first | (go_at_call 53; refine (HG.out _ (KS.out _ T1.out.bel)).mono ?_; rintro e W2 ⟨ao, cap, rfl, be⟩; have D2 := hide be; clear be) | (go_at_call 20; refine (HI.out _ (KS.out _ (T1.out.next D2.out).bel)).mono ?_; rintro e W3 ⟨rfl, be⟩; have D3 := hide (below_next D2.out be); clear be) | ((with_reducible refine at_list ?_); first | refine wpFieldBk14 _ rfl HH (.slice ao 1 cap) rfl (by rfl) ?_ | refine wpList_allocA A25 rfl rfl ?_ | refine wpList_store_newA A25 rfl _ _ rfl _ rfl ID IZ.out.1 IZ.out.2 rfl rfl ?_))
  have b4 := (Below.refl W3.heap.size W3).alloc (Nat.le_refl _) (.cells ID 46)
  have T4 := hide (T1.out.next (below_next D3.out b4))
  have R4 := hide (heap_alloc_last W3 (.cells ID 46))
  clear b4 D2 D3 HN HG HI T1
  generalize W3.alloc (.cells ID 46) = W4 at *
  generalize W3.heap.size = g2 at *
  go_upto_region 4 with (first | (go_at_call 91; refine (HM.out _ _ _ _ T4.out).mono ?_; rintro e W5 ⟨gl, rfl, rl, be⟩; have RL := hide rl; have R5 := hide ((be.block _ (lt_heap R4.out)).trans R4.out); have B5 := hide (T4.out.next be).bel; clear rl be) | ((with_reducible refine at_list ?_); refine wpList_loadS A25 _ rfl g2 rfl ID IZ.out.1 46 R4.out (by rfl) ?_))
  have DV := hide (Below.refl W5.heap.size W5).drew
  refine wp_region_held_drew (S := fun W => Below W5.heap.size W5 W) (by kernel_rfl) DV.out (fun hH => ?_)
  generalize W5.drew = V1 at *
  refine wpAnyH_take (i := 0) (v := (.int .i64 0)) rfl (by kernel_rfl) (by kernel_rfl) (by kernel_rfl) (fun _ _ _ h => h) (yl_move (by rfl) _ (by rfl) _ (by rfl)) hH ?_
  change wpAnyH _ _ _ _ _ _ _ (Act.put _ (some 15) _) _
  simp only [Act.put, List.setIfInBounds_toArray, List.set_cons_zero, List.set_cons_succ]
  refine wpAnyH_take (i := 1) (v := (.bool true)) rfl (by kernel_rfl) (by kernel_rfl) (by kernel_rfl) (fun _ _ _ h => h) (.inl ⟨by rfl, fun W _ => by go_simp⟩) hH ?_
  change wpAnyH _ _ _ _ _ _ _ (Act.put _ (some 16) _) _
  simp only [Act.put, List.setIfInBounds_toArray, List.set_cons_zero, List.set_cons_succ]
  refine wpAnyH_take (i := 2) (v := (.bool true)) rfl (by kernel_rfl) (by kernel_rfl) (by kernel_rfl) (fun _ _ _ h => h) (yl_move (by rfl) _ (by rfl) _ (by rfl)) hH ?_
  change wpAnyH _ _ _ _ _ _ _ (Act.put _ (some 17) _) _
  simp only [Act.put, List.setIfInBounds_toArray, List.set_cons_zero, List.set_cons_succ]
  refine wpAnyH_take (i := 3) (v := (.slice (some ⟨gl, 0, none⟩) 1 1)) rfl (by kernel_rfl) (by kernel_rfl) (by kernel_rfl) (fun _ _ _ h => h) (yl_move (by rfl) _ (by rfl) _ (by rfl)) hH ?_
  change wpAnyH _ _ _ _ _ _ _ (Act.put _ (some 18) _) _
  simp only [Act.put, List.setIfInBounds_toArray, List.set_cons_zero, List.set_cons_succ]
  refine wpAnyH_take (i := 4) (v := (.int .i64 1)) rfl (by kernel_rfl) (by kernel_rfl) (by kernel_rfl) (fun _ _ _ h => h) (.inl ⟨by rfl, fun W _ => by go_simp⟩) hH ?_
  change wpAnyH _ _ _ _ _ _ _ (Act.put _ (some 19) _) _
  simp only [Act.put, List.setIfInBounds_toArray, List.set_cons_zero, List.set_cons_succ]
  refine wpAnyH_take (i := 5) (v := (.bool true)) rfl (by kernel_rfl) (by kernel_rfl) (by kernel_rfl) (fun _ _ _ h => h) (.inl ⟨by rfl, fun W _ => by go_simp⟩) hH ?_
  change wpAnyH _ _ _ _ _ _ _ (Act.put _ (some 20) _) _
  simp only [Act.put, List.setIfInBounds_toArray, List.set_cons_zero, List.set_cons_succ]
  refine wpAnyH_take (i := 6) (v := (.bool true)) rfl (by kernel_rfl) (by kernel_rfl) (by kernel_rfl) (fun _ _ _ h => h) (.inl ⟨by rfl, fun W _ => by go_simp⟩) hH ?_
  change wpAnyH _ _ _ _ _ _ _ (Act.put _ (some 21) _) _
  simp only [Act.put, List.setIfInBounds_toArray, List.set_cons_zero, List.set_cons_succ]
  refine wpAnyH_take (i := 7) (v := (.bool true)) rfl (by kernel_rfl) (by kernel_rfl) (by kernel_rfl) (fun _ _ _ h => h) (yl_move (by rfl) _ (by rfl) _ (by rfl)) hH ?_
  change wpAnyH _ _ _ _ _ _ _ (Act.put _ (some 22) _) _
  simp only [Act.put, List.setIfInBounds_toArray, List.set_cons_zero, List.set_cons_succ]
  refine wpAnyH_take (i := 8) (v := (.slice (some ⟨gl, 0, none⟩) 1 1)) rfl (by kernel_rfl) (by kernel_rfl) (by kernel_rfl) (fun _ _ _ h => h) (yl_move (by rfl) _ (by rfl) _ (by rfl)) hH ?_
  change wpAnyH _ _ _ _ _ _ _ (Act.put _ (some 23) _) _
  simp only [Act.put, List.setIfInBounds_toArray, List.set_cons_zero, List.set_cons_succ]
  refine wpAnyH_take (i := 9) (v := (.pointer (some ⟨gl, 0, none⟩))) rfl (by kernel_rfl) (by kernel_rfl) (by kernel_rfl) (fun _ _ _ h => h) (.inl ⟨by rfl, fun W _ => by go_simp⟩) hH ?_
  change wpAnyH _ _ _ _ _ _ _ (Act.put _ (some 24) _) _
  simp only [Act.put, List.setIfInBounds_toArray, List.set_cons_zero, List.set_cons_succ]
  refine wpAnyH_take (i := 10) (v := (.agg ID)) rfl (by kernel_rfl) (by kernel_rfl) (by kernel_rfl) (fun _ _ _ h => h) (yl_load (by rfl) _ (by rfl) _ ID (by rfl) (fun W hS => ld_row A25 IZ.out.1 ((hS.block _ (lt_heap RL.out)).trans RL.out))) hH ?_
  change wpAnyH _ _ _ _ _ _ _ (Act.put _ (some 25) _) _
  simp only [Act.put, List.setIfInBounds_toArray, List.set_cons_zero, List.set_cons_succ]
  refine wpAnyH_take (i := 11) (v := (.agg ID)) rfl (by kernel_rfl) (by kernel_rfl) (by kernel_rfl) (fun _ _ _ h => h) (yl_load (by rfl) _ (by rfl) _ ID (by rfl) (fun W hS => ld_row A25 IZ.out.1 ((hS.block _ (lt_heap R5.out)).trans R5.out))) hH ?_
  change wpAnyH _ _ _ _ _ _ _ (Act.put _ (some 26) _) _
  simp only [Act.put, List.setIfInBounds_toArray, List.set_cons_zero, List.set_cons_succ]
  refine wpAnyH_take (i := 12) (v := (.bool true)) rfl (by kernel_rfl) (by kernel_rfl) (by kernel_rfl) (fun _ _ _ h => h) (yl_eqlB (by rfl) _ _ _ _ (by rfl) ID ID (by rfl) (by rfl) EG.out true EI.out) hH ?_
  change wpAnyH _ _ _ _ _ _ _ (Act.put _ (some 27) _) _
  simp only [Act.put, List.setIfInBounds_toArray, List.set_cons_zero, List.set_cons_succ]
  refine wpAnyH_take (i := 13) (v := (.bool true)) rfl (by kernel_rfl) (by kernel_rfl) (by kernel_rfl) (fun _ _ _ h => h) (.inl ⟨by rfl, fun W _ => by go_simp⟩) hH ?_
  change wpAnyH _ _ _ _ _ _ _ (Act.put _ (some 28) _) _
  simp only [Act.put, List.setIfInBounds_toArray, List.set_cons_zero, List.set_cons_succ]
  refine wpAnyH_take (i := 14) (v := (.bool true)) rfl (by kernel_rfl) (by kernel_rfl) (by kernel_rfl) (fun _ _ _ h => h) (.inl ⟨by rfl, fun W _ => by go_simp⟩) hH ?_
  change wpAnyH _ _ _ _ _ _ _ (Act.put _ (some 0) _) _
  simp only [Act.put, List.setIfInBounds_toArray, List.set_cons_zero, List.set_cons_succ]
  refine wpAnyH_done (by kernel_rfl) ?_ _
  go_wp2
  go_ret
  exact ⟨rfl, below_next B5.out DV.out⟩
end
end Go.Proofs.YtofddbjnncgmlaaGreatDoor
namespace Go.Proofs.YtofddbjnncgmlaaGreatDoor
open Go.RowKit
open Go.Deep
set_option linter.unusedVariables false
set_option linter.unusedSimpArgs false
/-- What Mine tells: so many tries, from a nonce on. -/
def mineT (h : Hd) : Nat → Nat → Hd × Bool
  | 0, _ => (h, false)
  | f + 1, j => if (h.at j).meets = true then (h.at j, true) else mineT h f (j + 1)
/-- The number behind the last nonce that is tried. -/
def mnE (h : Hd) (tr : Nat) : Nat := min (h.nonce.toNat + tr) 4294967296
def mineH (h : Hd) (tr : Nat) : Hd × Bool := if okB h.bits.toNat = true then mineT h (mnE h tr - h.nonce.toNat) h.nonce.toNat else (h, false)
theorem mineT_yes (h : Hd) (k : Nat) (hyes : (h.at k).meets = true) : ∀ (f j : Nat), j ≤ k → k < j + f → (∀ i, j ≤ i → i < k → (h.at i).meets = false) → mineT h f j = (h.at k, true) := by
  intro f
  induction f with
  | zero => intro j h1 h2; omega
  | succ f ih =>
    intro j h1 h2 hno
    unfold mineT
    by_cases e : j = k
    · subst e
      rw [if_pos hyes]
    · rw [if_neg (by rw [hno j (Nat.le_refl _) (by omega)]; decide)]
      exact ih (j + 1) (by omega) (by omega) (fun i h3 h4 => hno i (by omega) h4)
theorem Hd.at_nonce (h : Hd) : h.at h.nonce.toNat = h := by
  unfold Hd.at
  rw [UInt32.ofNat_toNat]
section
set_option maxRecDepth 10000
set_option maxHeartbeats 4000000
theorem mine_bad (h : Hd) (hbad : okB h.bits.toNat = false) (tr : Int) (w : World) : Calls Tryz.prog 21 #[.agg h.cells.toArray, .int .u64 tr] w fun e w' => e = .returned (.tuple #[.agg h.cells.toArray, .bool false]) ∧ Below w.heap.size w w' := by
  have s1 : (w.alloc (.cells h.cells.toArray 48)).heap.size = w.heap.size + 1 := by simp
  have r1 := (Below.heap_alloc _ (.cells zHd.cells.toArray 48) _ (lt_heap (heap_alloc_last w (.cells h.cells.toArray 48)))).trans (heap_alloc_last w (.cells h.cells.toArray 48))
  have r2 := heap_alloc_last (w.alloc (.cells h.cells.toArray 48)) (.cells zHd.cells.toArray 48)
  have b1 := ((Below.refl w.heap.size w).alloc (Nat.le_refl _) (.cells h.cells.toArray 48)).alloc (by rw [s1]; omega) (.cells zHd.cells.toArray 48)
  rw [s1] at r2
  have B1 := hide b1
  have R1 := hide r1
  have R2 := hide r2
  have CZ := hide (And.intro h.size h.all)
  have HX := hide (fun W => expand_no h.bits.toNat h.bits.toNat_lt hbad W)
  have c1 : ((w.alloc (.cells h.cells.toArray 48)).alloc (.cells zHd.cells.toArray 48)).cell? ⟨w.heap.size, 66, none⟩ = some (.int .u32 (h.bits.toNat : Int)) := by
    have q1 := h.bits0 (rowAt _ r1)
    rwa [Nat.zero_add] at q1
  clear b1 r1 r2 hbad
  generalize h.bits.toNat = NB at *
  go_enter Tryz.func21, Tryz.ntmps21
  go_upto_region 1 with ((with_reducible refine at_list ?_); first | refine wpList_boxA rfl _ rfl h.cells.toArray rfl ?_ | refine wpList_allocA AHd rfl rfl ?_)
  try rw [s1]
  clear s1
  generalize (w.alloc (.cells h.cells.toArray 48)).alloc (.cells zHd.cells.toArray 48) = W0 at *
  go_upto_region 2 with (first | (go_at_call 81; refine (HX.out _).mono ?_; rintro r W1 ⟨rfl, be⟩; have D1 := hide be; clear be) | ((with_reducible refine at_list ?_); first | refine wpList_allocA AW rfl rfl ?_ | refine wpList_store_newA AW rfl _ _ rfl _ rfl (wn 0) (wn_size _) (wn_one _) rfl rfl ?_))
  have D2 := hide (below_next D1.out ((Below.refl W1.heap.size W1).alloc (Nat.le_refl _) (.cells (wn 0) 51)))
  clear c1 D1
  generalize W1.alloc (.cells (wn 0) 51) = W2 at *
  have R1b := hide ((D2.out.block _ (lt_heap R1.out)).trans R1.out)
  have R2b := hide ((D2.out.block _ (lt_heap R2.out)).trans R2.out)
  go_wp2_with ((with_reducible refine at_list ?_); first | refine wpList_loadS AHd _ rfl w.heap.size rfl h.cells.toArray CZ.out.1 48 R1b.out (by rfl) ?_ | refine wpList_storeA AHd rfl _ _ rfl (w.heap.size + 1) h.cells.toArray CZ.out.1 CZ.out.2 rfl rfl zHd.cells.toArray zHd.size 48 R2b.out ?_)
  exact bodyPost_ret (v := .tuple #[.agg h.cells.toArray, .bool false]) (resA2K AHd Tryz.results21 _ _ (w.heap.size + 1) 48 _ CZ.out.1 rfl (setRow_heap _ _ _ _ _ _ R2b.out) _ rfl) rfl ⟨rfl, below_setRow (below_next B1.out D2.out) (by omega) _⟩
theorem mine_good (h : Hd) (hok : okB h.bits.toNat = true) (tr : Nat) (htr : tr ≤ 4294967296) (w : World) (hK : Kg w) : Calls Tryz.prog 21 #[.agg h.cells.toArray, .int .u64 (tr : Int)] w fun e w' => e = .returned (.tuple #[.agg (mineH h tr).1.cells.toArray, .bool (mineH h tr).2]) ∧ Below w.heap.size w w' := by
  have s1 : (w.alloc (.cells h.cells.toArray 48)).heap.size = w.heap.size + 1 := by simp
  have r1 := (Below.heap_alloc _ (.cells zHd.cells.toArray 48) _ (lt_heap (heap_alloc_last w (.cells h.cells.toArray 48)))).trans (heap_alloc_last w (.cells h.cells.toArray 48))
  have r2 := heap_alloc_last (w.alloc (.cells h.cells.toArray 48)) (.cells zHd.cells.toArray 48)
  have b1 := ((Below.refl w.heap.size w).alloc (Nat.le_refl _) (.cells h.cells.toArray 48)).alloc (by rw [s1]; omega) (.cells zHd.cells.toArray 48)
  rw [s1] at r2
  have B1 := hide b1
  have R1 := hide r1
  have R2 := hide r2
  have KW := hide hK.lt
  have KS := hide (hK.next b1)
  have CZ := hide h.size
  have H0 : Hid (h.at h.nonce.toNat = h) := h.at_nonce
  have ME : Hid (mineH h tr = mineT h (mnE h tr - h.nonce.toNat) h.nonce.toNat) := if_pos hok
  obtain ⟨n0, hn0⟩ : ∃ n0, n0 = h.nonce.toNat := ⟨_, rfl⟩
  have n0l : n0 < 4294967296 := by rw [hn0]; exact h.nonce.toNat_lt
  have HX := hide (fun W => expand_yes h.bits.toNat h.bits.toNat_lt hok W)
  have HH := hide (fun W => head_any h W)
  have HN := hide (fun W => new_any W)
  have HCUT := hide h.cut
  have FL := hide h.front_len
  have TZ : (txt h.bytes).size = 80 := by rw [txt_sz, h.bytes_len]
  have HI : Hid (∀ (j : Nat) (hj : j < 4294967296) (W : World) (bf : Nat), Kg W → Hat W bf h.front → Calls Tryz.prog 85 #[.pointer (some ⟨bf, 0, none⟩), .int .u32 (j : Int)] W fun e w' => e = .returned (.agg (hc (h.at j).id)) ∧ Below W.heap.size W w') := fun j hj W bf k hh => by
    rw [h.at_id j hj]
    exact idBehind_any bf h.front j hj W k (by rw [h.front_len]; omega) hh
  have HM : Hid (∀ (j : Nat) (W : World), Calls Tryz.prog 84 #[.agg (hc (h.at j).id), .int .u32 (h.bits.toNat : Int)] W fun e w' => e = .returned (.bool (h.at j).meets) ∧ Below W.heap.size W w') := fun j W => meets_any (h.at j).id (h.at j).id_len h.bits.toNat h.bits.toNat_lt W
  have RC : Hid (∀ (W : World) (g : Nat), W.heap[g]? = some (.cells h.cells.toArray 48 (0, 0)) → W.cell? ⟨g, 66, none⟩ = some (.int .u32 (h.bits.toNat : Int)) ∧ W.cell? ⟨g, 67, none⟩ = some (.int .u32 (n0 : Int))) := fun W g e => by
    have q1 := h.bits0 (rowAt _ e)
    have q2 := h.nonce0 (rowAt _ e)
    rw [Nat.zero_add] at q1 q2
    rw [← hn0] at q2
    exact ⟨q1, q2⟩
  have c1 := (RC.out _ _ R1.out).1
  have EE : Hid (∀ (q : Decidable ((4294967296 : Int) < (n0 : Int) + (tr : Int))), @ite Int ((4294967296 : Int) < (n0 : Int) + (tr : Int)) q (4294967296 : Int) ((n0 : Int) + (tr : Int)) = (mnE h tr : Int)) := fun q => by
    unfold mnE
    rw [← hn0]
    split <;> omega
  have E1 : min (tr : Int) 4294967296 = (tr : Int) := by omega
  have NE : n0 ≤ mnE h tr ∧ mnE h tr ≤ 4294967296 := by
    unfold mnE
    rw [← hn0]
    omega
  rw [← hn0] at H0 ME
  have MS0 := hide hn0
  clear b1 r1 r2 hK hok hn0
  generalize mnE h tr = BE at *
  generalize tgt h.bits.toNat = TG at *
  generalize hB : h.bits.toNat = NB at *
  have HA := hide (fun j => (h.at j).size)
  have HAl := hide (fun j => (h.at j).all)
  go_enter Tryz.func21, Tryz.ntmps21
  go_upto_region 1 with ((with_reducible refine at_list ?_); first | refine wpList_boxA rfl _ rfl h.cells.toArray rfl ?_ | refine wpList_allocA AHd rfl rfl ?_)
  try rw [s1]
  clear s1
  generalize (w.alloc (.cells h.cells.toArray 48)).alloc (.cells zHd.cells.toArray 48) = W0 at *
  go_upto_region 2 with (first | (go_at_call 81; refine (HX.out _).mono ?_; rintro r W1 ⟨rfl, be⟩; have D1 := hide be; clear be) | ((with_reducible refine at_list ?_); first | refine wpList_allocA AW rfl rfl ?_ | refine wpList_store_newA AW rfl _ _ rfl _ rfl (wn TG) (wn_size _) (wn_one _) rfl rfl ?_))
  have D2 := hide (below_next D1.out ((Below.refl W1.heap.size W1).alloc (Nat.le_refl _) (.cells (wn TG) 51)))
  clear c1 D1
  generalize W1.alloc (.cells (wn TG) 51) = W2 at *
  generalize W1.heap.size = g6 at *
  go_upto_region 4 with fail
  go_upto_region 5 with (go_at_call 82; refine (HN.out _).mono ?_; rintro r W3 ⟨bf, rfl, h3, be, hb3⟩; have H3 := hide h3; have G3 := hide (Nat.le_trans D2.out.size hb3); have D3 := hide (below_next D2.out be); clear h3 be hb3)
  have R3 := hide ((D3.out.block _ (lt_heap R1.out)).trans R1.out)
  go_upto_region 6 with (first | (go_at_call 80; refine (HH.out _).mono ?_; rintro r W4 ⟨rfl, be⟩; have D4 := hide (below_next D3.out be); have H4 := hide (H3.out.below be); clear be) | (go_at_call 83; refine (write_any bf [] ((txt h.bytes).extract 0 76) _ (KS.out.next D4.out) (by have := G3.out; have := KS.out.lt; omega) (by simp; omega) H4.out).mono ?_; rintro r W5 ⟨rfl, h5, f5⟩; have H5 := hide h5; have D5 := hide (D4.out.trans (f5.to_below G3.out D4.out.size)); clear h5 f5) | ((with_reducible refine at_list ?_); refine wpList_loadS AHd _ rfl w.heap.size rfl h.cells.toArray CZ.out 48 R3.out (by rfl) ?_))
  have R5 := hide ((D5.out.block _ (lt_heap R1.out)).trans R1.out)
  have R5b := hide ((D5.out.block _ (lt_heap R2.out)).trans R2.out)
  rw [List.nil_append, HCUT.out] at H5
  clear H3 H4 R3 D3 D4 D2 HX HH HN HCUT FL TZ
  go_upto_region 7 with ((with_reducible refine at_list ?_); first | refine wpList_loadS AHd _ rfl w.heap.size rfl h.cells.toArray CZ.out 48 R5.out (by rfl) ?_ | refine wpList_allocA AHd rfl rfl ?_ | refine wpList_store_newA AHd rfl _ _ rfl _ rfl h.cells.toArray CZ.out (h.all) rfl rfl ?_)
  have J0 : Hid (Mj w (W5.alloc (.cells h.cells.toArray 48)) h w.heap.size (w.heap.size + 1) W5.heap.size bf n0) := by
    have bb := (Below.refl W5.heap.size W5).alloc (Nat.le_refl _) (.cells h.cells.toArray 48)
    have l1 := lt_heap R5.out
    have l2 := lt_heap R5b.out
    have l3 := H5.out.lt
    refine ⟨(bb.block _ l1).trans R5.out, (bb.block _ l2).trans R5b.out, ?_, H5.out.below bb, below_next B1.out (below_next D5.out bb), KS.out.next (below_next D5.out bb), by omega, by omega, by omega, by omega, by omega⟩
    rw [H0.out]
    exact heap_alloc_last _ _
  clear R5 R5b H5 D5
  generalize W5.alloc (.cells h.cells.toArray 48) = W6 at *
  generalize W5.heap.size = g9 at *
  have c2 := (RC.out _ _ J0.out.r2).2
  go_upto_region 8 with fail
  rw [EE.out]
  go_upto_region 9 with fail
  clear c2 EE E1
  go_loopw [11] (fun i wr => ∃ j : Nat, n0 ≤ j ∧ j ≤ BE ∧ i = .int .u64 (j : Int) ∧ Hid (mineT h (BE - n0) n0 = mineT h (BE - j) j) ∧ ∃ p : Nat, Hid (Mj w wr h w.heap.size (w.heap.size + 1) g9 bf p)) (fun i _ => (BE + 1 - intOf i).toNat)
  case atStart => exact ⟨n0, Nat.le_refl _, NE.1, rfl, rfl, n0, J0⟩
  case round =>
    clear J0
    obtain ⟨j, hj0, hj, rfl, MT, p, J⟩ := hrel
    have hb0 : BE ≤ 4294967296 := NE.2
    by_cases hlt : j < BE
    · have hj2 := hide (show j < 4294967296 by omega)
      have h1 : decide ((j : Int) < (BE : Int)) = true := decide_eq_true (by omega)
      have h1' : (j : Int) < (BE : Int) := by omega
      have e1 : IntKind.u32.wrap (j : Int) = (j : Int) := by rw [IntKind.wrap_u32]; omega
      have e2 : IntKind.u64.wrap ((j : Int) + 1) = (j : Int) + 1 := wrapu _ (by omega) (by omega)
      have MS := hide (show ((BE : Int) + 1 - ((j : Int) + 1)).toNat < ((BE : Int) + 1 - (j : Int)).toNat by omega)
      have MT2 : Hid (mineT h (BE - n0) n0 = if (h.at j).meets = true then (h.at j, true) else mineT h (BE - (j + 1)) (j + 1)) := by
        show _ = _
        rw [MT.out, show BE - j = (BE - (j + 1)) + 1 by omega]
        rfl
      have JK := hide (And.intro hj0 hlt)
      clear hj hj0 hlt MT hb0 NE
      have J1 := hide (J.out.set j hj2.out KW.out)
      have c4 : wr.cell? ⟨g9, 67, none⟩ = some (.int .u32 ((h.at p).nonce.toNat : Int)) := by
        have q2 := (h.at p).nonce0 (rowAt _ J.out.r9)
        rwa [Nat.zero_add] at q2
      have f4 := frozen_of_row wr g9 67 _ _ J.out.r9
      clear J
      go_upto_region 12 with fail
      clear c4 f4 h1 h1' e1
      generalize wr.setCell ⟨g9, 67, none⟩ (.int .u32 (j : Int)) = W7 at *
      have CN : Hid (∀ W, Below W7.heap.size W7 W → W.cell? ⟨g9, 67, none⟩ = some (.int .u32 (j : Int)) ∧ W.cell? ⟨w.heap.size, 66, none⟩ = some (.int .u32 (NB : Int))) := fun W b => by
        have q := J1.out.next b
        have q2 := (h.at j).nonce0 (rowAt _ q.r9)
        rw [Nat.zero_add, show (h.at j).nonce = UInt32.ofNat j from rfl, ofNat_lt j hj2.out] at q2
        exact ⟨q2, (RC.out _ _ q.r2).1⟩
      have DV1 := hide ((Below.refl W7.heap.size W7).drew)
      have HIj := hide (fun W => HI.out j hj2.out W bf)
      have HMj := hide (fun W => HM.out j W)
      generalize hV : (h.at j).meets = V at *
      generalize (h.at j).id = ID at *
      clear hV
      refine wp_region_held_drew (S := fun W => Below W7.heap.size W7 W) (by kernel_rfl) DV1.out (fun hH => ?_)
      generalize hWd : W7.drew = V1 at *
      clear hWd
      refine wpAnyH_take (i := 0) (v := (.pointer (some ⟨bf, 0, none⟩))) rfl (by kernel_rfl) (by kernel_rfl) (by kernel_rfl) (fun _ _ _ h => h) (yl_move (by rfl) _ (by rfl) _ (by rfl)) hH ?_
      change wpAnyH _ _ _ _ _ _ _ (Act.put _ (some 46) _) _
      simp only [Act.put, List.setIfInBounds_toArray, List.set_cons_zero, List.set_cons_succ]
      refine wpAnyH_take (i := 1) (v := (.pointer (some ⟨g9, 67, none⟩))) rfl (by kernel_rfl) (by kernel_rfl) (by kernel_rfl) (fun _ _ _ h => h) (.inl ⟨by rfl, fun W _ => by go_simp⟩) hH ?_
      change wpAnyH _ _ _ _ _ _ _ (Act.put _ (some 47) _) _
      simp only [Act.put, List.setIfInBounds_toArray, List.set_cons_zero, List.set_cons_succ]
      refine wpAnyH_take (i := 2) (v := (.int .u32 (j : Int))) rfl (by kernel_rfl) (by kernel_rfl) (by kernel_rfl) (fun _ _ _ h => h) (.inl ⟨by rfl, fun W hS => by have c4 := (CN.out W hS).1; go_simp⟩) hH ?_
      change wpAnyH _ _ _ _ _ _ _ (Act.put _ (some 48) _) _
      simp only [Act.put, List.setIfInBounds_toArray, List.set_cons_zero, List.set_cons_succ]
      refine wpAnyH_take (i := 4) (v := (.pointer (some ⟨w.heap.size, 66, none⟩))) rfl (by kernel_rfl) (by kernel_rfl) (by kernel_rfl) (fun _ _ _ h => h) (.inl ⟨by rfl, fun W _ => by go_simp⟩) hH ?_
      change wpAnyH _ _ _ _ _ _ _ (Act.put _ (some 50) _) _
      simp only [Act.put, List.setIfInBounds_toArray, List.set_cons_zero, List.set_cons_succ]
      refine wpAnyH_take (i := 5) (v := (.int .u32 (NB : Int))) rfl (by kernel_rfl) (by kernel_rfl) (by kernel_rfl) (fun _ _ _ h => h) (.inl ⟨by rfl, fun W hS => by have c4 := (CN.out W hS).2; go_simp⟩) hH ?_
      change wpAnyH _ _ _ _ _ _ _ (Act.put _ (some 51) _) _
      simp only [Act.put, List.setIfInBounds_toArray, List.set_cons_zero, List.set_cons_succ]
      refine wpAnyH_ready (rs := [3]) (by kernel_rfl) (by simp) (AllReadyH.cons rfl (fun K1 hK1 => ?_) AllReadyH.nil)
      go_simp
      refine (HIj.out V1 (J1.out.next DV1.out).k (J1.out.next DV1.out).hat).mono ?_
      rintro r V2 ⟨rfl, be⟩
      have DV2 := hide (below_next DV1.out be)
      clear be
      refine hK1.out _ _ DV2.out (fun hH => ?_)
      clear hK1
      refine wpAnyH_ready (rs := [6]) (by kernel_rfl) (by simp) (AllReadyH.cons rfl (fun K1 hK1 => ?_) AllReadyH.nil)
      go_simp
      refine (HMj.out V2).mono ?_
      rintro r V3 ⟨rfl, be⟩
      have DV3 := hide (below_next DV2.out be)
      clear be
      refine hK1.out _ _ DV3.out (fun hH => ?_)
      clear hK1
      refine wpAnyH_done (by kernel_rfl) ?_ _
      clear hH
      have J3 := hide (J1.out.next DV3.out)
      clear CN HIj HMj DV1 DV2 DV3 J1
      cases V
      · have MT3 : Hid (mineT h (BE - n0) n0 = mineT h (BE - (j + 1)) (j + 1)) := by
          have := MT2.out
          rwa [if_neg (by decide)] at this
        clear MT2
        go_wp2
        exact ⟨⟨j + 1, Nat.le_succ_of_le JK.out.1, JK.out.2, by go_num, MT3, j, J3⟩, by simpa [intOf] using MS.out⟩
      · have MT3 : Hid (mineH h tr = (h.at j, true)) := by
          have := MT2.out
          rw [if_pos rfl] at this
          exact ME.out.trans this
        have R9 := hide J3.out.r9
        have R4 := hide J3.out.r4
        have HS9 := hide (HA.out j)
        have HL9 := hide (HAl.out j)
        generalize hCJ : (h.at j).cells.toArray = CJ at *
        have HCJ := hide hCJ
        clear hCJ MT2
        go_wp2_with ((with_reducible refine at_list ?_); first | refine wpList_loadS AHd _ rfl g9 rfl CJ HS9.out 48 R9.out (by rfl) ?_ | refine wpList_storeA AHd rfl _ _ rfl (w.heap.size + 1) CJ HS9.out HL9.out rfl rfl zHd.cells.toArray zHd.size 48 R4.out ?_)
        exact bodyPost_ret (v := .tuple #[.agg CJ, .bool true]) (resA2K AHd Tryz.results21 _ _ (w.heap.size + 1) 48 _ HS9.out rfl (setRow_heap _ _ _ _ _ _ R4.out) _ rfl) rfl ⟨by rw [MT3.out, ← HCJ.out], below_setRow J3.out.bel (by omega) _⟩
    · have e9 : j = BE := by omega
      subst e9
      have MT3 : Hid (mineH h tr = (h, false)) := by
        have := ME.out.trans MT.out
        rw [Nat.sub_self] at this
        exact this
      have h1 : ¬ ((j : Int) < (j : Int)) := by omega
      have R2 := hide J.out.r2
      have R4 := hide J.out.r4
      have HL2 := hide h.all
      clear hj hj0 hlt MT hb0 NE
      generalize hCJ : h.cells.toArray = CJ at *
      have HCJ := hide hCJ
      clear hCJ
      go_wp2_with ((with_reducible refine at_list ?_); first | refine wpList_loadS AHd _ rfl w.heap.size rfl CJ CZ.out 48 R2.out (by rfl) ?_ | refine wpList_storeA AHd rfl _ _ rfl (w.heap.size + 1) CJ CZ.out HL2.out rfl rfl zHd.cells.toArray zHd.size 48 R4.out ?_)
      exact bodyPost_ret (v := .tuple #[.agg CJ, .bool false]) (resA2K AHd Tryz.results21 _ _ (w.heap.size + 1) 48 _ CZ.out rfl (setRow_heap _ _ _ _ _ _ R4.out) _ rfl) rfl ⟨by rw [MT3.out, ← HCJ.out], below_setRow J.out.bel (by omega) _⟩
/-- Mine, whatever the header. -/
theorem mine_any (h : Hd) (tr : Nat) (htr : tr ≤ 4294967296) (w : World) (hK : Kg w) : Calls Tryz.prog 21 #[.agg h.cells.toArray, .int .u64 (tr : Int)] w fun e w' => e = .returned (.tuple #[.agg (mineH h tr).1.cells.toArray, .bool (mineH h tr).2]) ∧ Below w.heap.size w w' := by
  cases hok : okB h.bits.toNat
  · have e : mineH h tr = (h, false) := if_neg (by rw [hok]; decide)
    rw [e]
    exact mine_bad h hok (tr : Int) w
  · exact mine_good h hok tr htr w hK
end
end Go.Proofs.YtofddbjnncgmlaaGreatDoor
