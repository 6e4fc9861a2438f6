/- The walk of BlockBases. -/
import Derived.Test.YtdkemnjkhclbkaaDoorX39
namespace Go.Proofs.YtdkemnjkhclbkaaDoor
open Go.RowKit
open Go.Deep
set_option linter.unusedVariables false
/-- What comes in: a height, an extra, outputs and a transaction. -/
def bsL (n : Int) (x : ByteArray) (v : Value) (q : Tq) : List Value := [.int .i64 n, .string x, v] ++ q.cells
theorem bs_tx {W : World} {g : Nat} {n : Int} {x : ByteArray} {v : Value} {q : Tq} (h : W.rangeAt g 0 (bsL n x v q)) : W.rangeAt g 3 q.cells := fun j u hu => by
  have := h (3 + j) u (by rw [bsL, List.getElem?_append_right (by simp)]; simpa using hu)
  rwa [Nat.zero_add] at this
theorem leN_lowB (k n : Nat) (h : n < 256 ^ k) : leN (lowL n k) = n := by
  induction k generalizing n with
  | zero => simp [lowL, leN] at *; omega
  | succ k ih =>
    rw [lowL, leN, ih (n / 256) (by rw [Nat.pow_succ] at h; omega), UInt8.toNat_ofNat']
    omega
theorem cut4 (n : Nat) (x : ByteArray) : ((txt (lowL n 4 ++ x.data.toList)).extract 0 4).data.toList = lowL n 4 := by
  have : ((txt (lowL n 4 ++ x.data.toList)).extract 0 4).data.toList = ((lowL n 4 ++ x.data.toList).drop 0).take 4 := by
    simp [ByteArray.data_extract, txt, List.extract_eq_take_drop]
  rw [this, List.drop_zero, List.take_append_of_le_length (by rw [lowL_len]; omega), List.take_of_length_le (by rw [lowL_len]; omega)]
theorem cbT_base (n : Nat) (x : ByteArray) (L : List Tu) : (cbT n x L).base = true := by
  rw [Tm.base_one _ rfl]
  exact decide_eq_true rfl
theorem cbT_hgt (n : Nat) (hn : n ≤ 2147483647) (x : ByteArray) (L : List Tu) : (cbT n x L).hgt = (n, true) := by
  have e1 : hgI (cbT n x L).ins = hgK (txt (lowL n 4 ++ x.data.toList)) := rfl
  rw [Tm.hgt, if_pos (cbT_base n x L), e1, hgK, cut4, leN_lowB 4 n (by omega), if_pos ⟨by rw [txt_sz, List.length_append, lowL_len]; omega, hn⟩]
theorem txt_add (n : Nat) (x : ByteArray) : (⟨(lowL n 4).toArray⟩ : ByteArray) ++ x = txt (lowL n 4 ++ x.data.toList) := by
  apply ByteArray.ext
  simp [txt]
/-- What Coinbase makes, whatever comes in. -/
def cbOk (n : Int) (x : ByteArray) : Prop := 0 ≤ n ∧ n ≤ 2147483647 ∧ x.size ≤ 96
section
set_option maxRecDepth 10000
set_option maxHeartbeats 8000000
theorem coinbase_any (n : Int) (x : ByteArray) (v : Value) (L : List Tu) (hz : L.length * 24 ≤ 140737488355328) : ∃ (cm : Tm) (er : Int), (cbOk n x → cm = cbT n.toNat x L ∧ er = 0) ∧ (¬ cbOk n x → cm = zT ∧ er = 1) ∧ ∀ W, LX KO W v L → Calls Tryd.prog 11 #[.int .i64 n, .string x, v] W fun e w' => ∃ ai ci ao co, e = .returned (.tuple #[.agg (cm.cells ai ci ao co), .int .i64 er]) ∧ LT w' cm ai ci ao co ∧ Below W.heap.size W w' := by
  by_cases h : cbOk n x
  · obtain ⟨h0, h1, h2⟩ := h
    obtain ⟨k, rfl⟩ : ∃ k : Nat, n = (k : Int) := ⟨n.toNat, by omega⟩
    exact ⟨cbT k x L, 0, fun _ => ⟨rfl, rfl⟩, fun h => absurd ⟨h0, h1, h2⟩ h, fun W l => cbase_yes k x v L W (by omega) h2 l hz⟩
  · refine ⟨zT, 1, fun h' => absurd h' h, fun _ => ⟨rfl, rfl⟩, fun W l => (cbase_no n x v W ?_).mono fun e w' ⟨h1, h2⟩ => ⟨none, 0, none, 0, h1, ⟨LX.nil _, LX.nil _⟩, h2⟩⟩
    unfold cbOk at h
    omega
theorem blockBases_walk (w : World) (hK : Kg w) (n : Int) (hn0 : -9223372036854775808 ≤ n) (hn1 : n ≤ 9223372036854775807) (x : ByteArray) (v : Value) (L : List Tu) (hL : LX KO w v L) (hz : L.length * 24 ≤ 140737488355328) (q : Tq) (hq : q.can w) (hk : ∀ y ∈ q.m.ins, y.key.size ≤ maxLen) : Calls Tryd.prog 4 #[.agg (bsL n x v q).toArray] w fun r w' => r = .returned (.bool true) ∧ Below w.heap.size w w' := by
  obtain ⟨av, cv, rfl⟩ := hL.form
  have b1 := (Below.refl w.heap.size w).alloc (Nat.le_refl _) (.cells (bsL n x (.slice av L.length cv) q).toArray 49)
  have r1 := heap_alloc_last w (.cells (bsL n x (.slice av L.length cv) q).toArray 49)
  have B1 := hide b1
  have KS := hide (hK.next b1)
  have HL := hide (hL.below b1)
  have HQ := hide (hq.below b1)
  obtain ⟨cm, er, hy, hno, hcb⟩ := coinbase_any n x (.slice av L.length cv) L hz
  have CY := hide hy
  have CN := hide hno
  have HC := hide hcb
  have HH : Hid (∀ W, q.can W → Calls Tryd.prog 12 #[.agg q.arr] W fun e w' => e = .returned (.tuple #[.int .i64 (q.m.hgt.1 : Int), .bool q.m.hgt.2]) ∧ Below W.heap.size W w') := fun W c => height_any q.m q.ai q.ci q.ao q.co W c.1 c.2 hk
  have HO : Hid (∀ W, q.can W → Calls Tryd.prog 14 #[.agg q.arr] W fun e w' => ∃ (bi : Option Addr) (di : Nat) (bo : Option Addr) (d0 : Nat), e = .returned (.agg (q.m.cells bi di bo d0)) ∧ LR w' q.m bi di bo d0 ∧ Below W.heap.size W w') := fun W c => one_any q.m q.ai q.ci q.ao q.co W c.1 c.2
  have HRH : Hid (∀ W bi di bo d0, LR W q.m bi di bo d0 → Calls Tryd.prog 13 #[.agg (q.m.cells bi di bo d0)] W fun e w' => e = .returned (.tuple #[.int .i64 (q.m.hgt.1 : Int), .bool q.m.hgt.2]) ∧ Below W.heap.size W w') := fun W bi di bo d0 l => rheight_any q.m bi di bo d0 W l hq.2
  have HB : Hid (∀ W, q.can W → Calls Tryd.prog 15 #[.agg q.arr] W fun e w' => e = .returned (.bool q.m.base) ∧ Below W.heap.size W w') := fun W c => isCb_any q.m q.ai q.ci q.ao q.co W c.1 c.2
  have HRB : Hid (∀ W bi di bo d0, LR W q.m bi di bo d0 → Calls Tryd.prog 16 #[.agg (q.m.cells bi di bo d0)] W fun e w' => e = .returned (.bool q.m.base) ∧ Below W.heap.size W w') := fun W bi di bo d0 l => rbase_any q.m bi di bo d0 W l hq.2
  have HR := hide (fun W => reward_any n hn0 hn1 W)
  have HRR := hide (fun W => rreward_any n hn0 hn1 W)
  have RT : Hid (∀ W, Below (w.alloc (.cells (bsL n x (.slice av L.length cv) q).toArray 49)).heap.size (w.alloc (.cells (bsL n x (.slice av L.length cv) q).toArray 49)) W → W.cell? ⟨w.heap.size, 0, none⟩ = some (.int .i64 n) ∧ W.cell? ⟨w.heap.size, 1, none⟩ = some (.string x) ∧ W.cell? ⟨w.heap.size, 2, none⟩ = some (.slice av L.length cv) ∧ W.rangeAt w.heap.size 3 q.cells) := fun W b => by
    have e := (b.block _ (lt_heap r1)).trans r1
    have rr := rowAt _ e
    exact ⟨rr 0 _ rfl, rr 1 _ rfl, rr 2 _ rfl, bs_tx rr⟩
  have CF : Hid (∀ ai ci ao co, (cm.cells ai ci ao co).size = 4 ∧ (cm.cells ai ci ao co).all (·.oneCell') = true) := fun ai ci ao co => ⟨rfl, cm.one _ _ _ _⟩
  have BN := hide (And.intro hn0 hn1)
  clear b1 r1 hK hL hq hk hy hno hcb hn0 hn1
  generalize hbs : (bsL n x (.slice av L.length cv) q).toArray = C at *
  clear hbs
  generalize hH1 : (q.m.hgt.1 : Int) = H1 at *
  generalize hH2 : q.m.hgt.2 = H2 at *
  generalize hBB : q.m.base = BB at *
  clear hH1 hH2 hBB
  generalize (rwd n : Int) = RW at *
  generalize hqm : q.m.cells = QM at *
  clear hqm
  generalize hqa : q.arr = QA at *
  have HQA := hide hqa
  clear hqa
  go_enter Tryd.func4, Tryd.ntmps4
  go_upto_region 1 with ((with_reducible refine at_list ?_); refine wpList_boxA rfl _ rfl C rfl ?_)
  generalize w.alloc (.cells C 49) = W0 at *
  obtain ⟨c0, c1, c2, _⟩ := RT.out _ (Below.refl _ _)
  go_upto_region 2 with (first | (go_at_call 11; refine (HC.out _ HL.out).mono ?_; rintro r W1 ⟨ai, ci, ao, co, rfl, lt, be⟩; have D1 := hide be; have LC := hide lt; have CZ := hide (CF.out ai ci ao co); clear be lt) | ((with_reducible refine at_list ?_); first | refine wpList_allocA AT rfl rfl ?_ | refine wpList_store_newA AT rfl _ _ rfl _ rfl (cm.cells ai ci ao co) CZ.out.1 CZ.out.2 rfl rfl ?_))
  have b2 := (Below.refl W1.heap.size W1).alloc (Nat.le_refl _) (.cells (cm.cells ai ci ao co) 47)
  have D2 := hide (below_next D1.out b2)
  have R3 := hide (heap_alloc_last W1 (.cells (cm.cells ai ci ao co) 47))
  have LC2 := hide (LC.out.below b2)
  clear c0 c1 c2 b2 D1 LC HC CF
  generalize W1.alloc (.cells (cm.cells ai ci ao co) 47) = W2 at *
  generalize W1.heap.size = g3 at *
  have RT2 := hide (fun W (b : Below W2.heap.size W2 W) => RT.out W (below_next D2.out b))
  have KS2 := hide (KS.out.next D2.out)
  have HQ2 := hide (HQ.out.below D2.out)
  have HL2 := hide (HL.out.below D2.out)
  have B2 := hide (below_next B1.out D2.out)
  clear RT KS HQ HL B1 D2
  have RT := RT2
  have KS := KS2
  have HQ := HQ2
  have HL := HL2
  have B1 := B2
  clear RT2 KS2 HQ2 HL2 B2
  have D2 := hide (Below.refl W2.heap.size W2)
  have RQ2 := hide (RT.out _ D2.out).2.2.2
  have QQ : Hid (q.cells.toArray = QA) := HQA.out
  go_upto_region 3 with (first | (go_at_call 12; refine (HH.out _ (HQ.out.below D2.out)).mono ?_; rintro r W3 ⟨rfl, be⟩; have D3 := hide (below_next D2.out be); clear be) | ((with_reducible refine at_list ?_); refine wpLoadT _ rfl w.heap.size 3 rfl q RQ2.out (by rfl) ?_; rw [HQA.out]))
  have RQ3 := hide (RT.out _ D3.out).2.2.2
  go_upto_region 4 with (first | (go_at_call 14; refine (HO.out _ (HQ.out.below D3.out)).mono ?_; rintro r W4 ⟨bi, di, bo, d0, rfl, lr, be⟩; have D4 := hide (below_next D3.out be); have LR4 := hide lr; clear be lr) | (go_at_call 13; refine (HRH.out _ _ _ _ _ LR4.out).mono ?_; rintro r W5 ⟨rfl, be⟩; have D5 := hide (below_next D4.out be); clear be) | ((with_reducible refine at_list ?_); refine wpLoadT _ rfl w.heap.size 3 rfl q RQ3.out (by rfl) ?_; rw [HQA.out]))
  clear RQ2 RQ3 LR4 D3 D4 HH HRH
  have DV1 := hide (D5.out.drew)
  refine wp_region_held_drew (S := fun W => Below W2.heap.size W2 W) (by kernel_rfl) DV1.out (fun hH => ?_)
  generalize hWd : W5.drew = V1 at *
  clear hWd
  refine wpAnyH_ready (rs := [0]) (by kernel_rfl) (by simp) (AllReadyH.cons rfl (fun K1 hK1 => ?_) AllReadyH.nil)
  go_simp
  refine (awake11 V1 (KS.out.next DV1.out)).mono ?_
  rintro r V2 ⟨rfl, be⟩
  have DV2 := hide (below_next DV1.out be)
  clear be
  refine hK1.out _ _ DV2.out (fun hH => ?_)
  clear hK1
  have hq1 : (H1 != H1) = false := by simp
  have hq2 : (H2 != H2) = false := by simp
  have hq3 : (BB != BB) = false := by simp
  have hq4 : (RW != RW) = false := by simp
  refine wpAnyH_take (i := 1) (v := (.bool false)) rfl (by kernel_rfl) (by kernel_rfl) (by kernel_rfl) (fun _ _ _ h => h) (.inl ⟨by rfl, fun W _ => by go_simp⟩) hH ?_
  change wpAnyH _ _ _ _ _ _ _ (Act.put _ (some 37) _) _
  simp only [Act.put, List.setIfInBounds_toArray, List.set_cons_zero, List.set_cons_succ]
  refine wpAnyH_take (i := 2) (v := (.bool false)) rfl (by kernel_rfl) (by kernel_rfl) (by kernel_rfl) (fun _ _ _ h => h) (yl_move (by rfl) _ (by rfl) _ (by rfl)) hH ?_
  change wpAnyH _ _ _ _ _ _ _ (Act.put _ (some 38) _) _
  simp only [Act.put, List.setIfInBounds_toArray, List.set_cons_zero, List.set_cons_succ]
  refine wpAnyH_take (i := 3) (v := (.int .i64 H1)) rfl (by kernel_rfl) (by kernel_rfl) (by kernel_rfl) (fun _ _ _ h => h) (yl_move (by rfl) _ (by rfl) _ (by rfl)) hH ?_
  change wpAnyH _ _ _ _ _ _ _ (Act.put _ (some 39) _) _
  simp only [Act.put, List.setIfInBounds_toArray, List.set_cons_zero, List.set_cons_succ]
  refine wpAnyH_take (i := 4) (v := (.int .i64 H1)) rfl (by kernel_rfl) (by kernel_rfl) (by kernel_rfl) (fun _ _ _ h => h) (yl_move (by rfl) _ (by rfl) _ (by rfl)) hH ?_
  change wpAnyH _ _ _ _ _ _ _ (Act.put _ (some 40) _) _
  simp only [Act.put, List.setIfInBounds_toArray, List.set_cons_zero, List.set_cons_succ]
  refine wpAnyH_take (i := 5) (v := (.bool false)) rfl (by kernel_rfl) (by kernel_rfl) (by kernel_rfl) (fun _ _ _ h => h) (.inl ⟨by rfl, fun W _ => by go_simp⟩) hH ?_
  change wpAnyH _ _ _ _ _ _ _ (Act.put _ (some 41) _) _
  simp only [Act.put, List.setIfInBounds_toArray, List.set_cons_zero, List.set_cons_succ]
  refine wpAnyH_take (i := 6) (v := (.bool false)) rfl (by kernel_rfl) (by kernel_rfl) (by kernel_rfl) (fun _ _ _ h => h) (.inl ⟨by rfl, fun W _ => by go_simp⟩) hH ?_
  change wpAnyH _ _ _ _ _ _ _ (Act.put _ (some 42) _) _
  simp only [Act.put, List.setIfInBounds_toArray, List.set_cons_zero, List.set_cons_succ]
  refine wpAnyH_take (i := 7) (v := (.bool false)) rfl (by kernel_rfl) (by kernel_rfl) (by kernel_rfl) (fun _ _ _ h => h) (yl_move (by rfl) _ (by rfl) _ (by rfl)) hH ?_
  change wpAnyH _ _ _ _ _ _ _ (Act.put _ (some 43) _) _
  simp only [Act.put, List.setIfInBounds_toArray, List.set_cons_zero, List.set_cons_succ]
  refine wpAnyH_take (i := 8) (v := (.bool H2)) rfl (by kernel_rfl) (by kernel_rfl) (by kernel_rfl) (fun _ _ _ h => h) (yl_move (by rfl) _ (by rfl) _ (by rfl)) hH ?_
  change wpAnyH _ _ _ _ _ _ _ (Act.put _ (some 44) _) _
  simp only [Act.put, List.setIfInBounds_toArray, List.set_cons_zero, List.set_cons_succ]
  refine wpAnyH_take (i := 9) (v := (.bool H2)) rfl (by kernel_rfl) (by kernel_rfl) (by kernel_rfl) (fun _ _ _ h => h) (yl_move (by rfl) _ (by rfl) _ (by rfl)) hH ?_
  change wpAnyH _ _ _ _ _ _ _ (Act.put _ (some 45) _) _
  simp only [Act.put, List.setIfInBounds_toArray, List.set_cons_zero, List.set_cons_succ]
  refine wpAnyH_take (i := 10) (v := (.bool false)) rfl (by kernel_rfl) (by kernel_rfl) (by kernel_rfl) (fun _ _ _ h => h) (.inl ⟨by rfl, fun W _ => by go_simp⟩) hH ?_
  change wpAnyH _ _ _ _ _ _ _ (Act.put _ (some 46) _) _
  simp only [Act.put, List.setIfInBounds_toArray, List.set_cons_zero, List.set_cons_succ]
  refine wpAnyH_take (i := 11) (v := (.bool false)) rfl (by kernel_rfl) (by kernel_rfl) (by kernel_rfl) (fun _ _ _ h => h) (.inl ⟨by rfl, fun W _ => by go_simp⟩) hH ?_
  change wpAnyH _ _ _ _ _ _ _ (Act.put _ (some 47) _) _
  simp only [Act.put, List.setIfInBounds_toArray, List.set_cons_zero, List.set_cons_succ]
  refine wpAnyH_take (i := 12) (v := (.bool false)) rfl (by kernel_rfl) (by kernel_rfl) (by kernel_rfl) (fun _ _ _ h => h) (yl_move (by rfl) _ (by rfl) _ (by rfl)) hH ?_
  change wpAnyH _ _ _ _ _ _ _ (Act.put _ (some 48) _) _
  simp only [Act.put, List.setIfInBounds_toArray, List.set_cons_zero, List.set_cons_succ]
  refine wpAnyH_take (i := 13) (v := (.pointer (some ⟨w.heap.size, 3, none⟩))) rfl (by kernel_rfl) (by kernel_rfl) (by kernel_rfl) (fun _ _ _ h => h) (.inl ⟨by rfl, fun W _ => by go_simp⟩) hH ?_
  change wpAnyH _ _ _ _ _ _ _ (Act.put _ (some 49) _) _
  simp only [Act.put, List.setIfInBounds_toArray, List.set_cons_zero, List.set_cons_succ]
  refine wpAnyH_take (i := 14) (v := (.agg QA)) rfl (by kernel_rfl) (by kernel_rfl) (by kernel_rfl) (fun _ _ _ h => h) (yl_load (by rfl) _ (by rfl) _ QA (by rfl) (fun W hS => by rw [← HQA.out]; exact run_loadAt_mid W w.heap.size 3 47 _ _ (RT.out W hS).2.2.2 Tryd.underlying47 rfl (by kernel_rfl))) hH ?_
  change wpAnyH _ _ _ _ _ _ _ (Act.put _ (some 50) _) _
  simp only [Act.put, List.setIfInBounds_toArray, List.set_cons_zero, List.set_cons_succ]
  refine wpAnyH_take (i := 16) (v := (.pointer (some ⟨w.heap.size, 3, none⟩))) rfl (by kernel_rfl) (by kernel_rfl) (by kernel_rfl) (fun _ _ _ h => h) (.inl ⟨by rfl, fun W _ => by go_simp⟩) hH ?_
  change wpAnyH _ _ _ _ _ _ _ (Act.put _ (some 52) _) _
  simp only [Act.put, List.setIfInBounds_toArray, List.set_cons_zero, List.set_cons_succ]
  refine wpAnyH_take (i := 17) (v := (.agg QA)) rfl (by kernel_rfl) (by kernel_rfl) (by kernel_rfl) (fun _ _ _ h => h) (yl_load (by rfl) _ (by rfl) _ QA (by rfl) (fun W hS => by rw [← HQA.out]; exact run_loadAt_mid W w.heap.size 3 47 _ _ (RT.out W hS).2.2.2 Tryd.underlying47 rfl (by kernel_rfl))) hH ?_
  change wpAnyH _ _ _ _ _ _ _ (Act.put _ (some 53) _) _
  simp only [Act.put, List.setIfInBounds_toArray, List.set_cons_zero, List.set_cons_succ]
  refine wpAnyH_ready (rs := [15]) (by kernel_rfl) (by simp) (AllReadyH.cons rfl (fun K1 hK1 => ?_) AllReadyH.nil)
  go_simp
  refine (HB.out V2 (HQ.out.below DV2.out)).mono ?_
  rintro r V3 ⟨rfl, be⟩
  have DV3 := hide (below_next DV2.out be)
  clear be
  refine hK1.out _ _ DV3.out (fun hH => ?_)
  clear hK1
  refine wpAnyH_ready (rs := [18]) (by kernel_rfl) (by simp) (AllReadyH.cons rfl (fun K1 hK1 => ?_) AllReadyH.nil)
  go_simp
  refine (HO.out V3 (HQ.out.below DV3.out)).mono ?_
  rintro r V4 ⟨bi2, di2, bo2, d02, rfl, lr, be⟩
  have DV4 := hide (below_next DV3.out be)
  have LRV := hide lr
  clear lr
  clear be
  refine hK1.out _ _ DV4.out (fun hH => ?_)
  clear hK1
  refine wpAnyH_ready (rs := [19]) (by kernel_rfl) (by simp) (AllReadyH.cons rfl (fun K1 hK1 => ?_) AllReadyH.nil)
  go_simp
  refine (HRB.out V4 _ _ _ _ LRV.out).mono ?_
  rintro r V5 ⟨rfl, be⟩
  have DV5 := hide (below_next DV4.out be)
  clear be
  refine hK1.out _ _ DV5.out (fun hH => ?_)
  clear hK1
  refine wpAnyH_take (i := 20) (v := (.bool false)) rfl (by kernel_rfl) (by kernel_rfl) (by kernel_rfl) (fun _ _ _ h => h) (.inl ⟨by rfl, fun W _ => by go_simp⟩) hH ?_
  change wpAnyH _ _ _ _ _ _ _ (Act.put _ (some 56) _) _
  simp only [Act.put, List.setIfInBounds_toArray, List.set_cons_zero, List.set_cons_succ]
  refine wpAnyH_take (i := 21) (v := (.bool false)) rfl (by kernel_rfl) (by kernel_rfl) (by kernel_rfl) (fun _ _ _ h => h) (.inl ⟨by rfl, fun W _ => by go_simp⟩) hH ?_
  change wpAnyH _ _ _ _ _ _ _ (Act.put _ (some 57) _) _
  simp only [Act.put, List.setIfInBounds_toArray, List.set_cons_zero, List.set_cons_succ]
  refine wpAnyH_take (i := 22) (v := (.bool false)) rfl (by kernel_rfl) (by kernel_rfl) (by kernel_rfl) (fun _ _ _ h => h) (yl_move (by rfl) _ (by rfl) _ (by rfl)) hH ?_
  change wpAnyH _ _ _ _ _ _ _ (Act.put _ (some 58) _) _
  simp only [Act.put, List.setIfInBounds_toArray, List.set_cons_zero, List.set_cons_succ]
  refine wpAnyH_take (i := 23) (v := (.pointer (some ⟨w.heap.size, 0, none⟩))) rfl (by kernel_rfl) (by kernel_rfl) (by kernel_rfl) (fun _ _ _ h => h) (.inl ⟨by rfl, fun W _ => by go_simp⟩) hH ?_
  change wpAnyH _ _ _ _ _ _ _ (Act.put _ (some 59) _) _
  simp only [Act.put, List.setIfInBounds_toArray, List.set_cons_zero, List.set_cons_succ]
  refine wpAnyH_take (i := 24) (v := (.int .i64 n)) rfl (by kernel_rfl) (by kernel_rfl) (by kernel_rfl) (fun _ _ _ h => h) (.inl ⟨by rfl, fun W hS => by have c4 := (RT.out W hS).1; go_simp⟩) hH ?_
  change wpAnyH _ _ _ _ _ _ _ (Act.put _ (some 60) _) _
  simp only [Act.put, List.setIfInBounds_toArray, List.set_cons_zero, List.set_cons_succ]
  refine wpAnyH_take (i := 26) (v := (.pointer (some ⟨w.heap.size, 0, none⟩))) rfl (by kernel_rfl) (by kernel_rfl) (by kernel_rfl) (fun _ _ _ h => h) (.inl ⟨by rfl, fun W _ => by go_simp⟩) hH ?_
  change wpAnyH _ _ _ _ _ _ _ (Act.put _ (some 62) _) _
  simp only [Act.put, List.setIfInBounds_toArray, List.set_cons_zero, List.set_cons_succ]
  refine wpAnyH_take (i := 27) (v := (.int .i64 n)) rfl (by kernel_rfl) (by kernel_rfl) (by kernel_rfl) (fun _ _ _ h => h) (.inl ⟨by rfl, fun W hS => by have c4 := (RT.out W hS).1; go_simp⟩) hH ?_
  change wpAnyH _ _ _ _ _ _ _ (Act.put _ (some 63) _) _
  simp only [Act.put, List.setIfInBounds_toArray, List.set_cons_zero, List.set_cons_succ]
  refine wpAnyH_ready (rs := [25]) (by kernel_rfl) (by simp) (AllReadyH.cons rfl (fun K1 hK1 => ?_) AllReadyH.nil)
  go_simp
  refine (HR.out V5).mono ?_
  rintro r V6 ⟨rfl, h9⟩
  subst V6
  refine hK1.out _ _ DV5.out (fun hH => ?_)
  clear hK1
  refine wpAnyH_ready (rs := [28]) (by kernel_rfl) (by simp) (AllReadyH.cons rfl (fun K1 hK1 => ?_) AllReadyH.nil)
  go_simp
  refine (HRR.out V5).mono ?_
  rintro r V6 ⟨rfl, h9⟩
  subst V6
  refine hK1.out _ _ DV5.out (fun hH => ?_)
  clear hK1
  refine wpAnyH_take (i := 29) (v := (.bool false)) rfl (by kernel_rfl) (by kernel_rfl) (by kernel_rfl) (fun _ _ _ h => h) (.inl ⟨by rfl, fun W _ => by go_simp⟩) hH ?_
  change wpAnyH _ _ _ _ _ _ _ (Act.put _ (some 65) _) _
  simp only [Act.put, List.setIfInBounds_toArray, List.set_cons_zero, List.set_cons_succ]
  refine wpAnyH_take (i := 30) (v := (.bool false)) rfl (by kernel_rfl) (by kernel_rfl) (by kernel_rfl) (fun _ _ _ h => h) (.inl ⟨by rfl, fun W _ => by go_simp⟩) hH ?_
  change wpAnyH _ _ _ _ _ _ _ (Act.put _ (some 66) _) _
  simp only [Act.put, List.setIfInBounds_toArray, List.set_cons_zero, List.set_cons_succ]
  refine wpAnyH_done (by kernel_rfl) ?_ _
  clear hH hq1 hq2 hq3 hq4 HB HO HRB HR HRR HQ LRV DV1 DV2 DV3 DV4
  obtain ⟨c0, c1, c2, _⟩ := RT.out _ DV5.out
  have R3b := hide ((DV5.out.block _ (lt_heap R3.out)).trans R3.out)
  have LC5 := hide (LC2.out.below DV5.out)
  clear D5 LC2 R3
  by_cases hok : cbOk n x
  · obtain ⟨ecm, eer⟩ := CY.out hok
    subst ecm eer
    obtain ⟨h0, h1, h2⟩ := hok
    obtain ⟨k, rfl⟩ : ∃ k : Nat, n = (k : Int) := ⟨n.toNat, by omega⟩
    rw [Int.toNat_natCast] at *
    have q1 : decide ((k : Int) < 0) = false := decide_eq_false (by omega)
    have q2 : decide ((k : Int) > 2147483647) = false := decide_eq_false (by omega)
    have q3 : decide ((x.size : Int) > 96) = false := decide_eq_false (by omega)
    have q4 : ¬ (k : Int) > 2147483647 := by omega
    have q5 : ¬ (x.size : Int) > 96 := by omega
    have KL := hide (show k ≤ 2147483647 by omega)
    have XL := hide h2
    clear h0 h1 h2 CY CN BN
    go_upto_region 8 with fail
    clear q1 q2 q3 q4 q5 c0 c1 c2
    have TF : Hid ((cbT k x L).fit) := ⟨show 1 * 64 ≤ _ by omega, hz⟩
    have HOc : Hid (∀ W, LT W (cbT k x L) ai ci ao co → Calls Tryd.prog 14 #[.agg ((cbT k x L).cells ai ci ao co)] W fun e w' => ∃ (bi : Option Addr) (di : Nat) (bo : Option Addr) (d0 : Nat), e = .returned (.agg #[.int .u32 1, .slice bi 1 di, .slice bo L.length d0, .int .u32 0]) ∧ LR w' (cbT k x L) bi di bo d0 ∧ Below W.heap.size W w') := fun W l => one_any (cbT k x L) ai ci ao co W l TF.out
    have HRBc : Hid (∀ W bi di bo d0, LR W (cbT k x L) bi di bo d0 → Calls Tryd.prog 16 #[.agg #[.int .u32 1, .slice bi 1 di, .slice bo L.length d0, .int .u32 0]] W fun e w' => e = .returned (.bool true) ∧ Below W.heap.size W w') := fun W bi di bo d0 l => by
      have := rbase_any (cbT k x L) bi di bo d0 W l TF.out
      rw [cbT_base] at this
      exact this
    have HHc : Hid (∀ W, LT W (cbT k x L) ai ci ao co → Calls Tryd.prog 12 #[.agg ((cbT k x L).cells ai ci ao co)] W fun e w' => e = .returned (.tuple #[.int .i64 (k : Int), .bool true]) ∧ Below W.heap.size W w') := fun W l => by
      have := height_any (cbT k x L) ai ci ao co W l TF.out (fun y hy => by
        have hy2 : y = cbI (txt (lowL k 4 ++ x.data.toList)) := by simpa [cbT] using hy
        subst hy2
        show (txt (lowL k 4 ++ x.data.toList)).size ≤ maxLen
        rw [txt_sz, List.length_append, lowL_len]
        have h2 := XL.out
        have h3 : x.data.toList.length = x.size := by simp
        unfold maxLen
        omega)
      rw [cbT_hgt k KL.out x L] at this
      exact this
    have HLw : Hid (∀ W, Calls Tryd.prog 19 #[.int .u64 (k : Int), .int .i64 4] W fun e w' => e = .returned (.string ⟨(lowL k 4).toArray⟩) ∧ Below W.heap.size W w') := fun W => low_any k 4 4 rfl (by have := KL.out; unfold U64; omega) W (by omega)
    have HADD := hide (txt_add k x)
    have CIK : Hid (∀ (W : World) g off, W.rangeAt g off (cbI (txt (lowL k 4 ++ x.data.toList))).cells → W.cell? ⟨g, off + 33, none⟩ = some (.string (txt (lowL k 4 ++ x.data.toList))) ∧ W.cell? ⟨g, off + 34, none⟩ = some (.int .u32 4294967295)) := fun W g off r => ⟨Ti.keyR' _ r, Ti.seqR _ r⟩
    have INS : Hid ((cbT k x L).ins = [cbI (txt (lowL k 4 ++ x.data.toList))]) := rfl
    have OUTS : Hid ((cbT k x L).outs = L) := rfl
    have KZ := hide (show (txt (lowL k 4 ++ x.data.toList)).size ≤ 100 by
      rw [txt_sz, List.length_append, lowL_len]
      have h2 := XL.out
      have h3 : x.data.toList.length = x.size := by simp
      omega)
    generalize hKK : txt (lowL k 4 ++ x.data.toList) = K at *
    clear hKK
    generalize hTC : (cbT k x L).cells ai ci ao co = TC at *
    clear hTC
    generalize hTM : cbT k x L = TM at *
    clear hTM
    go_upto_region 9 with (first | (go_at_call 14; refine (HOc.out _ LC5.out).mono ?_; rintro r W6 ⟨bi, di, bo, d0, rfl, lr, be⟩; have D6 := hide be; have LR6 := hide lr; clear be lr) | ((with_reducible refine at_list ?_); first | refine wpList_loadS AT _ rfl g3 rfl TC CZ.out.1 47 R3b.out (by rfl) ?_ | refine wpList_allocA ATr rfl rfl ?_ | refine wpList_store_newA ATr rfl _ _ rfl _ rfl #[.int .u32 1, .slice bi 1 di, .slice bo L.length d0, .int .u32 0] rfl (by simp [Value.oneCell']) rfl rfl ?_))
    obtain ⟨gi, oi, rfl⟩ := LR6.out.i.base (by rw [INS.out]; exact Nat.one_pos)
    have b7 := (Below.refl W6.heap.size W6).alloc (Nat.le_refl _) (.cells #[.int .u32 1, .slice (some ⟨gi, oi, none⟩) 1 di, .slice bo L.length d0, .int .u32 0] 59)
    have D7 := hide (below_next D6.out b7)
    have R9 := hide (heap_alloc_last W6 (.cells #[.int .u32 1, .slice (some ⟨gi, oi, none⟩) 1 di, .slice bo L.length d0, .int .u32 0] 59))
    have LR7 := hide (LR6.out.below b7)
    clear b7 D6 LR6 HOc
    generalize W6.alloc (.cells #[.int .u32 1, .slice (some ⟨gi, oi, none⟩) 1 di, .slice bo L.length d0, .int .u32 0] 59) = W7 at *
    generalize W6.heap.size = g9 at *
    have D70 := hide (below_next DV5.out D7.out)
    have SF : Hid (∀ W, Below W7.heap.size W7 W → (W.cell? ⟨g9, 0, none⟩ = some (.int .u32 1) ∧ W.cell? ⟨g9, 1, none⟩ = some (.slice (some ⟨gi, oi, none⟩) 1 di) ∧ W.cell? ⟨g9, 2, none⟩ = some (.slice bo L.length d0) ∧ W.cell? ⟨g9, 3, none⟩ = some (.int .u32 0)) ∧ (W.cell? ⟨gi, oi + 33, none⟩ = some (.string K) ∧ W.cell? ⟨gi, oi + 34, none⟩ = some (.int .u32 4294967295)) ∧ W.heap[g9]? = some (.cells #[.int .u32 1, .slice (some ⟨gi, oi, none⟩) 1 di, .slice bo L.length d0, .int .u32 0] 59 (0, 0))) := fun W b => by
      have e := (b.block _ (lt_heap R9.out)).trans R9.out
      have i0 := (LR7.out.below b).i.range 0 (by rw [INS.out]; exact Nat.one_pos)
      rw [Nat.zero_mul, Nat.add_zero] at i0
      have i1 : TM.ins[0]'(by rw [INS.out]; exact Nat.one_pos) = cbI K := by simp [INS.out]
      rw [show KAr.enc (TM.ins[0]'(by rw [INS.out]; exact Nat.one_pos)) = (cbI K).cells by rw [i1]; rfl] at i0
      exact ⟨⟨by rw [cell_of_row _ _ _ _ _ _ e]; rfl, by rw [cell_of_row _ _ _ _ _ _ e]; rfl, by rw [cell_of_row _ _ _ _ _ _ e]; rfl, by rw [cell_of_row _ _ _ _ _ _ e]; rfl⟩, CIK.out W gi oi i0, e⟩
    have RT7 := hide (fun W (b : Below W7.heap.size W7 W) => RT.out W (below_next D70.out b))
    have LO7 : Hid (LX KOr W7 (.slice bo L.length d0) L) := by
      have := LR7.out.o
      rw [OUTS.out] at this
      exact this
    have LI7 := hide (HL.out.below D70.out)
    have LC7 := hide (LC5.out.below D7.out)
    have R37 := hide ((D7.out.block _ (lt_heap R3b.out)).trans R3b.out)
    have HRB7 := hide (fun W (l : LR W TM (some ⟨gi, oi, none⟩) di bo d0) => HRBc.out W _ _ _ _ l)
    have B7 := hide (below_next B1.out D70.out)
    clear RT R9 D7 D70 HL LC5 R3b HRBc CIK INS OUTS B1 DV5 KS
    have DU1 := hide ((Below.refl W7.heap.size W7).drew)
    refine wp_region_held_drew (S := fun W => Below W7.heap.size W7 W) (by kernel_rfl) DU1.out (fun hH => ?_)
    generalize hWd : W7.drew = U1 at *
    clear hWd
    have eU : IntKind.u64.wrap (k : Int) = (k : Int) := wrapu _ (by omega) (by have := KL.out; omega)
    refine wpAnyH_take (i := 0) (v := (.int .i64 0)) rfl (by kernel_rfl) (by kernel_rfl) (by kernel_rfl) (fun _ _ _ h => h) (yl_move (by rfl) _ (by rfl) _ (by rfl)) hH ?_
    change wpAnyH _ _ _ _ _ _ _ (Act.put _ (some 97) _) _
    simp only [Act.put, List.setIfInBounds_toArray, List.set_cons_zero, List.set_cons_succ]
    refine wpAnyH_take (i := 1) (v := (.bool false)) rfl (by kernel_rfl) (by kernel_rfl) (by kernel_rfl) (fun _ _ _ h => h) (.inl ⟨by rfl, fun W _ => by go_simp⟩) hH ?_
    change wpAnyH _ _ _ _ _ _ _ (Act.put _ (some 98) _) _
    simp only [Act.put, List.setIfInBounds_toArray, List.set_cons_zero, List.set_cons_succ]
    refine wpAnyH_take (i := 2) (v := (.bool false)) rfl (by kernel_rfl) (by kernel_rfl) (by kernel_rfl) (fun _ _ _ h => h) (yl_move (by rfl) _ (by rfl) _ (by rfl)) hH ?_
    change wpAnyH _ _ _ _ _ _ _ (Act.put _ (some 99) _) _
    simp only [Act.put, List.setIfInBounds_toArray, List.set_cons_zero, List.set_cons_succ]
    refine wpAnyH_take (i := 3) (v := (.agg #[.int .u32 1, .slice (some ⟨gi, oi, none⟩) 1 di, .slice bo L.length d0, .int .u32 0])) rfl (by kernel_rfl) (by kernel_rfl) (by kernel_rfl) (fun _ _ _ h => h) (yl_load (by rfl) _ (by rfl) _ _ (by rfl) (fun W hS => ld_row ATr rfl (SF.out W hS).2.2)) hH ?_
    change wpAnyH _ _ _ _ _ _ _ (Act.put _ (some 100) _) _
    simp only [Act.put, List.setIfInBounds_toArray, List.set_cons_zero, List.set_cons_succ]
    refine wpAnyH_ready (rs := [4]) (by kernel_rfl) (by simp) (AllReadyH.cons rfl (fun K1 hK1 => ?_) AllReadyH.nil)
    go_simp
    refine (HRB7.out U1 (LR7.out.below DU1.out)).mono ?_
    rintro r U2 ⟨rfl, be⟩
    have DU2 := hide (below_next DU1.out be)
    clear be
    refine hK1.out _ _ DU2.out (fun hH => ?_)
    clear hK1
    refine wpAnyH_take (i := 5) (v := (.bool false)) rfl (by kernel_rfl) (by kernel_rfl) (by kernel_rfl) (fun _ _ _ h => h) (.inl ⟨by rfl, fun W _ => by go_simp⟩) hH ?_
    change wpAnyH _ _ _ _ _ _ _ (Act.put _ (some 102) _) _
    simp only [Act.put, List.setIfInBounds_toArray, List.set_cons_zero, List.set_cons_succ]
    refine wpAnyH_take (i := 6) (v := (.bool false)) rfl (by kernel_rfl) (by kernel_rfl) (by kernel_rfl) (fun _ _ _ h => h) (.inl ⟨by rfl, fun W _ => by go_simp⟩) hH ?_
    change wpAnyH _ _ _ _ _ _ _ (Act.put _ (some 103) _) _
    simp only [Act.put, List.setIfInBounds_toArray, List.set_cons_zero, List.set_cons_succ]
    refine wpAnyH_take (i := 7) (v := (.bool false)) rfl (by kernel_rfl) (by kernel_rfl) (by kernel_rfl) (fun _ _ _ h => h) (yl_move (by rfl) _ (by rfl) _ (by rfl)) hH ?_
    change wpAnyH _ _ _ _ _ _ _ (Act.put _ (some 104) _) _
    simp only [Act.put, List.setIfInBounds_toArray, List.set_cons_zero, List.set_cons_succ]
    refine wpAnyH_take (i := 8) (v := (.pointer (some ⟨g9, 0, none⟩))) rfl (by kernel_rfl) (by kernel_rfl) (by kernel_rfl) (fun _ _ _ h => h) (.inl ⟨by rfl, fun W _ => by go_simp⟩) hH ?_
    change wpAnyH _ _ _ _ _ _ _ (Act.put _ (some 105) _) _
    simp only [Act.put, List.setIfInBounds_toArray, List.set_cons_zero, List.set_cons_succ]
    refine wpAnyH_take (i := 9) (v := (.int .u32 1)) rfl (by kernel_rfl) (by kernel_rfl) (by kernel_rfl) (fun _ _ _ h => h) (.inl ⟨by rfl, fun W hS => by have c4 := (SF.out W hS).1.1; go_simp⟩) hH ?_
    change wpAnyH _ _ _ _ _ _ _ (Act.put _ (some 106) _) _
    simp only [Act.put, List.setIfInBounds_toArray, List.set_cons_zero, List.set_cons_succ]
    refine wpAnyH_take (i := 10) (v := (.bool false)) rfl (by kernel_rfl) (by kernel_rfl) (by kernel_rfl) (fun _ _ _ h => h) (.inl ⟨by rfl, fun W _ => by go_simp⟩) hH ?_
    change wpAnyH _ _ _ _ _ _ _ (Act.put _ (some 107) _) _
    simp only [Act.put, List.setIfInBounds_toArray, List.set_cons_zero, List.set_cons_succ]
    refine wpAnyH_take (i := 11) (v := (.bool false)) rfl (by kernel_rfl) (by kernel_rfl) (by kernel_rfl) (fun _ _ _ h => h) (.inl ⟨by rfl, fun W _ => by go_simp⟩) hH ?_
    change wpAnyH _ _ _ _ _ _ _ (Act.put _ (some 108) _) _
    simp only [Act.put, List.setIfInBounds_toArray, List.set_cons_zero, List.set_cons_succ]
    refine wpAnyH_take (i := 12) (v := (.bool false)) rfl (by kernel_rfl) (by kernel_rfl) (by kernel_rfl) (fun _ _ _ h => h) (yl_move (by rfl) _ (by rfl) _ (by rfl)) hH ?_
    change wpAnyH _ _ _ _ _ _ _ (Act.put _ (some 109) _) _
    simp only [Act.put, List.setIfInBounds_toArray, List.set_cons_zero, List.set_cons_succ]
    refine wpAnyH_take (i := 13) (v := (.pointer (some ⟨g9, 3, none⟩))) rfl (by kernel_rfl) (by kernel_rfl) (by kernel_rfl) (fun _ _ _ h => h) (.inl ⟨by rfl, fun W _ => by go_simp⟩) hH ?_
    change wpAnyH _ _ _ _ _ _ _ (Act.put _ (some 110) _) _
    simp only [Act.put, List.setIfInBounds_toArray, List.set_cons_zero, List.set_cons_succ]
    refine wpAnyH_take (i := 14) (v := (.int .u32 0)) rfl (by kernel_rfl) (by kernel_rfl) (by kernel_rfl) (fun _ _ _ h => h) (.inl ⟨by rfl, fun W hS => by have c4 := (SF.out W hS).1.2.2.2; go_simp⟩) hH ?_
    change wpAnyH _ _ _ _ _ _ _ (Act.put _ (some 111) _) _
    simp only [Act.put, List.setIfInBounds_toArray, List.set_cons_zero, List.set_cons_succ]
    refine wpAnyH_take (i := 15) (v := (.bool false)) rfl (by kernel_rfl) (by kernel_rfl) (by kernel_rfl) (fun _ _ _ h => h) (.inl ⟨by rfl, fun W _ => by go_simp⟩) hH ?_
    change wpAnyH _ _ _ _ _ _ _ (Act.put _ (some 112) _) _
    simp only [Act.put, List.setIfInBounds_toArray, List.set_cons_zero, List.set_cons_succ]
    refine wpAnyH_take (i := 16) (v := (.bool false)) rfl (by kernel_rfl) (by kernel_rfl) (by kernel_rfl) (fun _ _ _ h => h) (.inl ⟨by rfl, fun W _ => by go_simp⟩) hH ?_
    change wpAnyH _ _ _ _ _ _ _ (Act.put _ (some 113) _) _
    simp only [Act.put, List.setIfInBounds_toArray, List.set_cons_zero, List.set_cons_succ]
    refine wpAnyH_take (i := 17) (v := (.bool false)) rfl (by kernel_rfl) (by kernel_rfl) (by kernel_rfl) (fun _ _ _ h => h) (yl_move (by rfl) _ (by rfl) _ (by rfl)) hH ?_
    change wpAnyH _ _ _ _ _ _ _ (Act.put _ (some 114) _) _
    simp only [Act.put, List.setIfInBounds_toArray, List.set_cons_zero, List.set_cons_succ]
    refine wpAnyH_take (i := 18) (v := (.pointer (some ⟨g9, 1, none⟩))) rfl (by kernel_rfl) (by kernel_rfl) (by kernel_rfl) (fun _ _ _ h => h) (.inl ⟨by rfl, fun W _ => by go_simp⟩) hH ?_
    change wpAnyH _ _ _ _ _ _ _ (Act.put _ (some 115) _) _
    simp only [Act.put, List.setIfInBounds_toArray, List.set_cons_zero, List.set_cons_succ]
    refine wpAnyH_take (i := 19) (v := (.slice (some ⟨gi, oi, none⟩) 1 di)) rfl (by kernel_rfl) (by kernel_rfl) (by kernel_rfl) (fun _ _ _ h => h) (.inl ⟨by rfl, fun W hS => by have c4 := (SF.out W hS).1.2.1; go_simp⟩) hH ?_
    change wpAnyH _ _ _ _ _ _ _ (Act.put _ (some 116) _) _
    simp only [Act.put, List.setIfInBounds_toArray, List.set_cons_zero, List.set_cons_succ]
    refine wpAnyH_take (i := 20) (v := (.pointer (some ⟨gi, oi, none⟩))) rfl (by kernel_rfl) (by kernel_rfl) (by kernel_rfl) (fun _ _ _ h => h) (.inl ⟨by rfl, fun W _ => by go_simp⟩) hH ?_
    change wpAnyH _ _ _ _ _ _ _ (Act.put _ (some 117) _) _
    simp only [Act.put, List.setIfInBounds_toArray, List.set_cons_zero, List.set_cons_succ]
    refine wpAnyH_take (i := 21) (v := (.pointer (some ⟨gi, oi + 33, none⟩))) rfl (by kernel_rfl) (by kernel_rfl) (by kernel_rfl) (fun _ _ _ h => h) (.inl ⟨by rfl, fun W _ => by go_simp⟩) hH ?_
    change wpAnyH _ _ _ _ _ _ _ (Act.put _ (some 118) _) _
    simp only [Act.put, List.setIfInBounds_toArray, List.set_cons_zero, List.set_cons_succ]
    refine wpAnyH_take (i := 22) (v := (.string K)) rfl (by kernel_rfl) (by kernel_rfl) (by kernel_rfl) (fun _ _ _ h => h) (.inl ⟨by rfl, fun W hS => by have c4 := (SF.out W hS).2.1.1; go_simp⟩) hH ?_
    change wpAnyH _ _ _ _ _ _ _ (Act.put _ (some 119) _) _
    simp only [Act.put, List.setIfInBounds_toArray, List.set_cons_zero, List.set_cons_succ]
    refine wpAnyH_take (i := 23) (v := (.pointer (some ⟨w.heap.size, 0, none⟩))) rfl (by kernel_rfl) (by kernel_rfl) (by kernel_rfl) (fun _ _ _ h => h) (.inl ⟨by rfl, fun W _ => by go_simp⟩) hH ?_
    change wpAnyH _ _ _ _ _ _ _ (Act.put _ (some 120) _) _
    simp only [Act.put, List.setIfInBounds_toArray, List.set_cons_zero, List.set_cons_succ]
    refine wpAnyH_take (i := 24) (v := (.int .i64 (k : Int))) rfl (by kernel_rfl) (by kernel_rfl) (by kernel_rfl) (fun _ _ _ h => h) (.inl ⟨by rfl, fun W hS => by have c4 := (RT7.out W hS).1; go_simp⟩) hH ?_
    change wpAnyH _ _ _ _ _ _ _ (Act.put _ (some 121) _) _
    simp only [Act.put, List.setIfInBounds_toArray, List.set_cons_zero, List.set_cons_succ]
    refine wpAnyH_take (i := 25) (v := (.int .u64 (k : Int))) rfl (by kernel_rfl) (by kernel_rfl) (by kernel_rfl) (fun _ _ _ h => h) (.inl ⟨by rfl, fun W _ => by go_simp⟩) hH ?_
    change wpAnyH _ _ _ _ _ _ _ (Act.put _ (some 122) _) _
    simp only [Act.put, List.setIfInBounds_toArray, List.set_cons_zero, List.set_cons_succ]
    refine wpAnyH_take (i := 27) (v := (.pointer (some ⟨w.heap.size, 1, none⟩))) rfl (by kernel_rfl) (by kernel_rfl) (by kernel_rfl) (fun _ _ _ h => h) (.inl ⟨by rfl, fun W _ => by go_simp⟩) hH ?_
    change wpAnyH _ _ _ _ _ _ _ (Act.put _ (some 124) _) _
    simp only [Act.put, List.setIfInBounds_toArray, List.set_cons_zero, List.set_cons_succ]
    refine wpAnyH_take (i := 28) (v := (.string x)) rfl (by kernel_rfl) (by kernel_rfl) (by kernel_rfl) (fun _ _ _ h => h) (.inl ⟨by rfl, fun W hS => by have c4 := (RT7.out W hS).2.1; go_simp⟩) hH ?_
    change wpAnyH _ _ _ _ _ _ _ (Act.put _ (some 125) _) _
    simp only [Act.put, List.setIfInBounds_toArray, List.set_cons_zero, List.set_cons_succ]
    refine wpAnyH_ready (rs := [26]) (by kernel_rfl) (by simp) (AllReadyH.cons rfl (fun K1 hK1 => ?_) AllReadyH.nil)
    go_simp
    refine (HLw.out U2).mono ?_
    rintro r U3 ⟨rfl, be⟩
    have DU3 := hide (below_next DU2.out be)
    clear be
    refine hK1.out _ _ DU3.out (fun hH => ?_)
    clear hK1
    have hadd := HADD.out
    have hkz := KZ.out
    have hsum : (lowL k 4).length + x.size ≤ 9223372036854775807 := by rw [lowL_len]; have := XL.out; omega
    refine wpAnyH_take (i := 29) (v := (.string K)) rfl (by kernel_rfl) (by kernel_rfl) (by kernel_rfl) (fun _ _ _ h => h) (.inl ⟨by rfl, fun W _ => by go_simp⟩) hH ?_
    change wpAnyH _ _ _ _ _ _ _ (Act.put _ (some 126) _) _
    simp only [Act.put, List.setIfInBounds_toArray, List.set_cons_zero, List.set_cons_succ]
    refine wpAnyH_take (i := 30) (v := (.bool false)) rfl (by kernel_rfl) (by kernel_rfl) (by kernel_rfl) (fun _ _ _ h => h) (.inl ⟨by rfl, fun W _ => by go_simp⟩) hH ?_
    change wpAnyH _ _ _ _ _ _ _ (Act.put _ (some 127) _) _
    simp only [Act.put, List.setIfInBounds_toArray, List.set_cons_zero, List.set_cons_succ]
    refine wpAnyH_take (i := 31) (v := (.bool false)) rfl (by kernel_rfl) (by kernel_rfl) (by kernel_rfl) (fun _ _ _ h => h) (.inl ⟨by rfl, fun W _ => by go_simp⟩) hH ?_
    change wpAnyH _ _ _ _ _ _ _ (Act.put _ (some 128) _) _
    simp only [Act.put, List.setIfInBounds_toArray, List.set_cons_zero, List.set_cons_succ]
    refine wpAnyH_take (i := 32) (v := (.bool false)) rfl (by kernel_rfl) (by kernel_rfl) (by kernel_rfl) (fun _ _ _ h => h) (yl_move (by rfl) _ (by rfl) _ (by rfl)) hH ?_
    change wpAnyH _ _ _ _ _ _ _ (Act.put _ (some 129) _) _
    simp only [Act.put, List.setIfInBounds_toArray, List.set_cons_zero, List.set_cons_succ]
    refine wpAnyH_take (i := 33) (v := (.pointer (some ⟨g9, 1, none⟩))) rfl (by kernel_rfl) (by kernel_rfl) (by kernel_rfl) (fun _ _ _ h => h) (.inl ⟨by rfl, fun W _ => by go_simp⟩) hH ?_
    change wpAnyH _ _ _ _ _ _ _ (Act.put _ (some 130) _) _
    simp only [Act.put, List.setIfInBounds_toArray, List.set_cons_zero, List.set_cons_succ]
    refine wpAnyH_take (i := 34) (v := (.slice (some ⟨gi, oi, none⟩) 1 di)) rfl (by kernel_rfl) (by kernel_rfl) (by kernel_rfl) (fun _ _ _ h => h) (.inl ⟨by rfl, fun W hS => by have c4 := (SF.out W hS).1.2.1; go_simp⟩) hH ?_
    change wpAnyH _ _ _ _ _ _ _ (Act.put _ (some 131) _) _
    simp only [Act.put, List.setIfInBounds_toArray, List.set_cons_zero, List.set_cons_succ]
    refine wpAnyH_take (i := 35) (v := (.pointer (some ⟨gi, oi, none⟩))) rfl (by kernel_rfl) (by kernel_rfl) (by kernel_rfl) (fun _ _ _ h => h) (.inl ⟨by rfl, fun W _ => by go_simp⟩) hH ?_
    change wpAnyH _ _ _ _ _ _ _ (Act.put _ (some 132) _) _
    simp only [Act.put, List.setIfInBounds_toArray, List.set_cons_zero, List.set_cons_succ]
    refine wpAnyH_take (i := 36) (v := (.pointer (some ⟨gi, oi + 34, none⟩))) rfl (by kernel_rfl) (by kernel_rfl) (by kernel_rfl) (fun _ _ _ h => h) (.inl ⟨by rfl, fun W _ => by go_simp⟩) hH ?_
    change wpAnyH _ _ _ _ _ _ _ (Act.put _ (some 133) _) _
    simp only [Act.put, List.setIfInBounds_toArray, List.set_cons_zero, List.set_cons_succ]
    refine wpAnyH_take (i := 37) (v := (.int .u32 4294967295)) rfl (by kernel_rfl) (by kernel_rfl) (by kernel_rfl) (fun _ _ _ h => h) (.inl ⟨by rfl, fun W hS => by have c4 := (SF.out W hS).2.1.2; go_simp⟩) hH ?_
    change wpAnyH _ _ _ _ _ _ _ (Act.put _ (some 134) _) _
    simp only [Act.put, List.setIfInBounds_toArray, List.set_cons_zero, List.set_cons_succ]
    refine wpAnyH_take (i := 38) (v := (.bool false)) rfl (by kernel_rfl) (by kernel_rfl) (by kernel_rfl) (fun _ _ _ h => h) (.inl ⟨by rfl, fun W _ => by go_simp⟩) hH ?_
    change wpAnyH _ _ _ _ _ _ _ (Act.put _ (some 135) _) _
    simp only [Act.put, List.setIfInBounds_toArray, List.set_cons_zero, List.set_cons_succ]
    refine wpAnyH_take (i := 39) (v := (.bool false)) rfl (by kernel_rfl) (by kernel_rfl) (by kernel_rfl) (fun _ _ _ h => h) (.inl ⟨by rfl, fun W _ => by go_simp⟩) hH ?_
    change wpAnyH _ _ _ _ _ _ _ (Act.put _ (some 136) _) _
    simp only [Act.put, List.setIfInBounds_toArray, List.set_cons_zero, List.set_cons_succ]
    refine wpAnyH_take (i := 40) (v := (.bool false)) rfl (by kernel_rfl) (by kernel_rfl) (by kernel_rfl) (fun _ _ _ h => h) (yl_move (by rfl) _ (by rfl) _ (by rfl)) hH ?_
    change wpAnyH _ _ _ _ _ _ _ (Act.put _ (some 137) _) _
    simp only [Act.put, List.setIfInBounds_toArray, List.set_cons_zero, List.set_cons_succ]
    refine wpAnyH_take (i := 41) (v := (.pointer (some ⟨g9, 2, none⟩))) rfl (by kernel_rfl) (by kernel_rfl) (by kernel_rfl) (fun _ _ _ h => h) (.inl ⟨by rfl, fun W _ => by go_simp⟩) hH ?_
    change wpAnyH _ _ _ _ _ _ _ (Act.put _ (some 138) _) _
    simp only [Act.put, List.setIfInBounds_toArray, List.set_cons_zero, List.set_cons_succ]
    refine wpAnyH_take (i := 42) (v := (.slice bo L.length d0)) rfl (by kernel_rfl) (by kernel_rfl) (by kernel_rfl) (fun _ _ _ h => h) (.inl ⟨by rfl, fun W hS => by have c4 := (SF.out W hS).1.2.2.1; go_simp⟩) hH ?_
    change wpAnyH _ _ _ _ _ _ _ (Act.put _ (some 139) _) _
    simp only [Act.put, List.setIfInBounds_toArray, List.set_cons_zero, List.set_cons_succ]
    refine wpAnyH_take (i := 43) (v := (.int .i64 (L.length : Int))) rfl (by kernel_rfl) (by kernel_rfl) (by kernel_rfl) (fun _ _ _ h => h) (.inl ⟨by rfl, fun W _ => by go_simp⟩) hH ?_
    change wpAnyH _ _ _ _ _ _ _ (Act.put _ (some 140) _) _
    simp only [Act.put, List.setIfInBounds_toArray, List.set_cons_zero, List.set_cons_succ]
    refine wpAnyH_take (i := 44) (v := (.pointer (some ⟨w.heap.size, 2, none⟩))) rfl (by kernel_rfl) (by kernel_rfl) (by kernel_rfl) (fun _ _ _ h => h) (.inl ⟨by rfl, fun W _ => by go_simp⟩) hH ?_
    change wpAnyH _ _ _ _ _ _ _ (Act.put _ (some 141) _) _
    simp only [Act.put, List.setIfInBounds_toArray, List.set_cons_zero, List.set_cons_succ]
    refine wpAnyH_take (i := 45) (v := (.slice av L.length cv)) rfl (by kernel_rfl) (by kernel_rfl) (by kernel_rfl) (fun _ _ _ h => h) (.inl ⟨by rfl, fun W hS => by have c4 := (RT7.out W hS).2.2.1; go_simp⟩) hH ?_
    change wpAnyH _ _ _ _ _ _ _ (Act.put _ (some 142) _) _
    simp only [Act.put, List.setIfInBounds_toArray, List.set_cons_zero, List.set_cons_succ]
    refine wpAnyH_take (i := 46) (v := (.int .i64 (L.length : Int))) rfl (by kernel_rfl) (by kernel_rfl) (by kernel_rfl) (fun _ _ _ h => h) (.inl ⟨by rfl, fun W _ => by go_simp⟩) hH ?_
    change wpAnyH _ _ _ _ _ _ _ (Act.put _ (some 143) _) _
    simp only [Act.put, List.setIfInBounds_toArray, List.set_cons_zero, List.set_cons_succ]
    refine wpAnyH_take (i := 47) (v := (.bool false)) rfl (by kernel_rfl) (by kernel_rfl) (by kernel_rfl) (fun _ _ _ h => h) (.inl ⟨by rfl, fun W _ => by go_simp⟩) hH ?_
    change wpAnyH _ _ _ _ _ _ _ (Act.put _ (some 144) _) _
    simp only [Act.put, List.setIfInBounds_toArray, List.set_cons_zero, List.set_cons_succ]
    refine wpAnyH_take (i := 48) (v := (.bool false)) rfl (by kernel_rfl) (by kernel_rfl) (by kernel_rfl) (fun _ _ _ h => h) (.inl ⟨by rfl, fun W _ => by go_simp⟩) hH ?_
    change wpAnyH _ _ _ _ _ _ _ (Act.put _ (some 145) _) _
    simp only [Act.put, List.setIfInBounds_toArray, List.set_cons_zero, List.set_cons_succ]
    refine wpAnyH_done (by kernel_rfl) ?_ _
    clear hH hadd hkz hsum eU
    go_upto_region 12 with fail
    go_loopw [10] (fun i wr => ∃ j : Nat, j ≤ L.length ∧ i = .int .i64 (j : Int) ∧ Hid (Below W7.heap.size W7 wr)) (fun i _ => (L.length - intOf i).toNat)
    case atStart => exact ⟨0, Nat.zero_le _, rfl, DU3.out⟩
    case round =>
      clear DU1 DU2 DU3
      obtain ⟨j, hj, rfl, J⟩ := hrel
      obtain ⟨⟨_, _, f2, _⟩, _⟩ := SF.out _ J.out
      by_cases hlt : j < L.length
      · have h1 : (j : Int) < (L.length : Int) := by omega
        have h2 : (0 : Int) ≤ (j : Int) := by omega
        have e1 : IntKind.i64.wrap ((j : Int) + 1) = j + 1 := wrapI _ (by omega) (by omega)
        have KK := hide (And.intro (show j + 1 ≤ L.length by omega) (show ((L.length : Int) - ((j : Int) + 1)).toNat < ((L.length : Int) - (j : Int)).toNat by omega))
        obtain ⟨gb, ob, rfl⟩ := LO7.out.base (by omega)
        obtain ⟨ga, oa, rfl⟩ := LI7.out.base (by omega)
        have OR : Hid (∀ W, Below W7.heap.size W7 W → W.rangeAt gb (ob + j * 2) L[j].cells) := fun W b => (LO7.out.below b).range j hlt
        have IR : Hid (∀ W, Below W7.heap.size W7 W → W.rangeAt ga (oa + j * 2) L[j].cells) := fun W b => (LI7.out.below b).range j hlt
        generalize L[j] = y at *
        clear hj hlt
        go_upto_region 14 with fail
        clear f2
        have DU := hide (J.out.drew)
        refine wp_region_held_drew (S := fun W => Below W7.heap.size W7 W) (by kernel_rfl) DU.out (fun hH => ?_)
        generalize hWd : wr.drew = U4 at *
        clear hWd
        refine wpAnyH_take (i := 0) (v := (.pointer (some ⟨g9, 2, none⟩))) rfl (by kernel_rfl) (by kernel_rfl) (by kernel_rfl) (fun _ _ _ h => h) (.inl ⟨by rfl, fun W _ => by go_simp⟩) hH ?_
        change wpAnyH _ _ _ _ _ _ _ (Act.put _ (some 153) _) _
        simp only [Act.put, List.setIfInBounds_toArray, List.set_cons_zero, List.set_cons_succ]
        refine wpAnyH_take (i := 1) (v := (.slice (some ⟨gb, ob, none⟩) L.length d0)) rfl (by kernel_rfl) (by kernel_rfl) (by kernel_rfl) (fun _ _ _ h => h) (.inl ⟨by rfl, fun W hS => by have c4 := (SF.out W hS).1.2.2.1; go_simp⟩) hH ?_
        change wpAnyH _ _ _ _ _ _ _ (Act.put _ (some 154) _) _
        simp only [Act.put, List.setIfInBounds_toArray, List.set_cons_zero, List.set_cons_succ]
        refine wpAnyH_take (i := 2) (v := (.int .i64 (j : Int))) rfl (by kernel_rfl) (by kernel_rfl) (by kernel_rfl) (fun _ _ _ h => h) (yl_move (by rfl) _ (by rfl) _ (by rfl)) hH ?_
        change wpAnyH _ _ _ _ _ _ _ (Act.put _ (some 155) _) _
        simp only [Act.put, List.setIfInBounds_toArray, List.set_cons_zero, List.set_cons_succ]
        refine wpAnyH_take (i := 3) (v := (.pointer (some ⟨gb, ob + j * 2, none⟩))) rfl (by kernel_rfl) (by kernel_rfl) (by kernel_rfl) (fun _ _ _ h => h) (.inl ⟨by rfl, fun W _ => by go_simp⟩) hH ?_
        change wpAnyH _ _ _ _ _ _ _ (Act.put _ (some 156) _) _
        simp only [Act.put, List.setIfInBounds_toArray, List.set_cons_zero, List.set_cons_succ]
        refine wpAnyH_take (i := 4) (v := (.pointer (some ⟨gb, ob + j * 2, none⟩))) rfl (by kernel_rfl) (by kernel_rfl) (by kernel_rfl) (fun _ _ _ h => h) (.inl ⟨by rfl, fun W _ => by go_simp⟩) hH ?_
        change wpAnyH _ _ _ _ _ _ _ (Act.put _ (some 157) _) _
        simp only [Act.put, List.setIfInBounds_toArray, List.set_cons_zero, List.set_cons_succ]
        refine wpAnyH_take (i := 5) (v := (.int .u64 (y.val.toNat : Int))) rfl (by kernel_rfl) (by kernel_rfl) (by kernel_rfl) (fun _ _ _ h => h) (.inl ⟨by rfl, fun W hS => by have c4 := y.valR (OR.out W hS); go_simp⟩) hH ?_
        change wpAnyH _ _ _ _ _ _ _ (Act.put _ (some 158) _) _
        simp only [Act.put, List.setIfInBounds_toArray, List.set_cons_zero, List.set_cons_succ]
        refine wpAnyH_take (i := 6) (v := (.pointer (some ⟨w.heap.size, 2, none⟩))) rfl (by kernel_rfl) (by kernel_rfl) (by kernel_rfl) (fun _ _ _ h => h) (.inl ⟨by rfl, fun W _ => by go_simp⟩) hH ?_
        change wpAnyH _ _ _ _ _ _ _ (Act.put _ (some 159) _) _
        simp only [Act.put, List.setIfInBounds_toArray, List.set_cons_zero, List.set_cons_succ]
        refine wpAnyH_take (i := 7) (v := (.slice (some ⟨ga, oa, none⟩) L.length cv)) rfl (by kernel_rfl) (by kernel_rfl) (by kernel_rfl) (fun _ _ _ h => h) (.inl ⟨by rfl, fun W hS => by have c4 := (RT7.out W hS).2.2.1; go_simp⟩) hH ?_
        change wpAnyH _ _ _ _ _ _ _ (Act.put _ (some 160) _) _
        simp only [Act.put, List.setIfInBounds_toArray, List.set_cons_zero, List.set_cons_succ]
        refine wpAnyH_take (i := 8) (v := (.int .i64 (j : Int))) rfl (by kernel_rfl) (by kernel_rfl) (by kernel_rfl) (fun _ _ _ h => h) (yl_move (by rfl) _ (by rfl) _ (by rfl)) hH ?_
        change wpAnyH _ _ _ _ _ _ _ (Act.put _ (some 161) _) _
        simp only [Act.put, List.setIfInBounds_toArray, List.set_cons_zero, List.set_cons_succ]
        refine wpAnyH_take (i := 9) (v := (.pointer (some ⟨ga, oa + j * 2, none⟩))) rfl (by kernel_rfl) (by kernel_rfl) (by kernel_rfl) (fun _ _ _ h => h) (.inl ⟨by rfl, fun W _ => by go_simp⟩) hH ?_
        change wpAnyH _ _ _ _ _ _ _ (Act.put _ (some 162) _) _
        simp only [Act.put, List.setIfInBounds_toArray, List.set_cons_zero, List.set_cons_succ]
        refine wpAnyH_take (i := 10) (v := (.pointer (some ⟨ga, oa + j * 2, none⟩))) rfl (by kernel_rfl) (by kernel_rfl) (by kernel_rfl) (fun _ _ _ h => h) (.inl ⟨by rfl, fun W _ => by go_simp⟩) hH ?_
        change wpAnyH _ _ _ _ _ _ _ (Act.put _ (some 163) _) _
        simp only [Act.put, List.setIfInBounds_toArray, List.set_cons_zero, List.set_cons_succ]
        refine wpAnyH_take (i := 11) (v := (.int .u64 (y.val.toNat : Int))) rfl (by kernel_rfl) (by kernel_rfl) (by kernel_rfl) (fun _ _ _ h => h) (.inl ⟨by rfl, fun W hS => by have c4 := y.valR (IR.out W hS); go_simp⟩) hH ?_
        change wpAnyH _ _ _ _ _ _ _ (Act.put _ (some 164) _) _
        simp only [Act.put, List.setIfInBounds_toArray, List.set_cons_zero, List.set_cons_succ]
        refine wpAnyH_take (i := 12) (v := (.bool false)) rfl (by kernel_rfl) (by kernel_rfl) (by kernel_rfl) (fun _ _ _ h => h) (.inl ⟨by rfl, fun W _ => by go_simp⟩) hH ?_
        change wpAnyH _ _ _ _ _ _ _ (Act.put _ (some 165) _) _
        simp only [Act.put, List.setIfInBounds_toArray, List.set_cons_zero, List.set_cons_succ]
        refine wpAnyH_take (i := 13) (v := (.bool false)) rfl (by kernel_rfl) (by kernel_rfl) (by kernel_rfl) (fun _ _ _ h => h) (yl_move (by rfl) _ (by rfl) _ (by rfl)) hH ?_
        change wpAnyH _ _ _ _ _ _ _ (Act.put _ (some 166) _) _
        simp only [Act.put, List.setIfInBounds_toArray, List.set_cons_zero, List.set_cons_succ]
        refine wpAnyH_take (i := 14) (v := (.pointer (some ⟨g9, 2, none⟩))) rfl (by kernel_rfl) (by kernel_rfl) (by kernel_rfl) (fun _ _ _ h => h) (.inl ⟨by rfl, fun W _ => by go_simp⟩) hH ?_
        change wpAnyH _ _ _ _ _ _ _ (Act.put _ (some 167) _) _
        simp only [Act.put, List.setIfInBounds_toArray, List.set_cons_zero, List.set_cons_succ]
        refine wpAnyH_take (i := 15) (v := (.slice (some ⟨gb, ob, none⟩) L.length d0)) rfl (by kernel_rfl) (by kernel_rfl) (by kernel_rfl) (fun _ _ _ h => h) (.inl ⟨by rfl, fun W hS => by have c4 := (SF.out W hS).1.2.2.1; go_simp⟩) hH ?_
        change wpAnyH _ _ _ _ _ _ _ (Act.put _ (some 168) _) _
        simp only [Act.put, List.setIfInBounds_toArray, List.set_cons_zero, List.set_cons_succ]
        refine wpAnyH_take (i := 16) (v := (.int .i64 (j : Int))) rfl (by kernel_rfl) (by kernel_rfl) (by kernel_rfl) (fun _ _ _ h => h) (yl_move (by rfl) _ (by rfl) _ (by rfl)) hH ?_
        change wpAnyH _ _ _ _ _ _ _ (Act.put _ (some 169) _) _
        simp only [Act.put, List.setIfInBounds_toArray, List.set_cons_zero, List.set_cons_succ]
        refine wpAnyH_take (i := 17) (v := (.pointer (some ⟨gb, ob + j * 2, none⟩))) rfl (by kernel_rfl) (by kernel_rfl) (by kernel_rfl) (fun _ _ _ h => h) (.inl ⟨by rfl, fun W _ => by go_simp⟩) hH ?_
        change wpAnyH _ _ _ _ _ _ _ (Act.put _ (some 170) _) _
        simp only [Act.put, List.setIfInBounds_toArray, List.set_cons_zero, List.set_cons_succ]
        refine wpAnyH_take (i := 18) (v := (.pointer (some ⟨gb, ob + j * 2 + 1, none⟩))) rfl (by kernel_rfl) (by kernel_rfl) (by kernel_rfl) (fun _ _ _ h => h) (.inl ⟨by rfl, fun W _ => by go_simp⟩) hH ?_
        change wpAnyH _ _ _ _ _ _ _ (Act.put _ (some 171) _) _
        simp only [Act.put, List.setIfInBounds_toArray, List.set_cons_zero, List.set_cons_succ]
        refine wpAnyH_take (i := 19) (v := (.string y.lock)) rfl (by kernel_rfl) (by kernel_rfl) (by kernel_rfl) (fun _ _ _ h => h) (.inl ⟨by rfl, fun W hS => by have c4 := y.lockR (OR.out W hS); go_simp⟩) hH ?_
        change wpAnyH _ _ _ _ _ _ _ (Act.put _ (some 172) _) _
        simp only [Act.put, List.setIfInBounds_toArray, List.set_cons_zero, List.set_cons_succ]
        refine wpAnyH_take (i := 20) (v := (.pointer (some ⟨w.heap.size, 2, none⟩))) rfl (by kernel_rfl) (by kernel_rfl) (by kernel_rfl) (fun _ _ _ h => h) (.inl ⟨by rfl, fun W _ => by go_simp⟩) hH ?_
        change wpAnyH _ _ _ _ _ _ _ (Act.put _ (some 173) _) _
        simp only [Act.put, List.setIfInBounds_toArray, List.set_cons_zero, List.set_cons_succ]
        refine wpAnyH_take (i := 21) (v := (.slice (some ⟨ga, oa, none⟩) L.length cv)) rfl (by kernel_rfl) (by kernel_rfl) (by kernel_rfl) (fun _ _ _ h => h) (.inl ⟨by rfl, fun W hS => by have c4 := (RT7.out W hS).2.2.1; go_simp⟩) hH ?_
        change wpAnyH _ _ _ _ _ _ _ (Act.put _ (some 174) _) _
        simp only [Act.put, List.setIfInBounds_toArray, List.set_cons_zero, List.set_cons_succ]
        refine wpAnyH_take (i := 22) (v := (.int .i64 (j : Int))) rfl (by kernel_rfl) (by kernel_rfl) (by kernel_rfl) (fun _ _ _ h => h) (yl_move (by rfl) _ (by rfl) _ (by rfl)) hH ?_
        change wpAnyH _ _ _ _ _ _ _ (Act.put _ (some 175) _) _
        simp only [Act.put, List.setIfInBounds_toArray, List.set_cons_zero, List.set_cons_succ]
        refine wpAnyH_take (i := 23) (v := (.pointer (some ⟨ga, oa + j * 2, none⟩))) rfl (by kernel_rfl) (by kernel_rfl) (by kernel_rfl) (fun _ _ _ h => h) (.inl ⟨by rfl, fun W _ => by go_simp⟩) hH ?_
        change wpAnyH _ _ _ _ _ _ _ (Act.put _ (some 176) _) _
        simp only [Act.put, List.setIfInBounds_toArray, List.set_cons_zero, List.set_cons_succ]
        refine wpAnyH_take (i := 24) (v := (.pointer (some ⟨ga, oa + j * 2 + 1, none⟩))) rfl (by kernel_rfl) (by kernel_rfl) (by kernel_rfl) (fun _ _ _ h => h) (.inl ⟨by rfl, fun W _ => by go_simp⟩) hH ?_
        change wpAnyH _ _ _ _ _ _ _ (Act.put _ (some 177) _) _
        simp only [Act.put, List.setIfInBounds_toArray, List.set_cons_zero, List.set_cons_succ]
        refine wpAnyH_take (i := 25) (v := (.string y.lock)) rfl (by kernel_rfl) (by kernel_rfl) (by kernel_rfl) (fun _ _ _ h => h) (.inl ⟨by rfl, fun W hS => by have c4 := y.lockR (IR.out W hS); go_simp⟩) hH ?_
        change wpAnyH _ _ _ _ _ _ _ (Act.put _ (some 178) _) _
        simp only [Act.put, List.setIfInBounds_toArray, List.set_cons_zero, List.set_cons_succ]
        refine wpAnyH_take (i := 26) (v := (.bool false)) rfl (by kernel_rfl) (by kernel_rfl) (by kernel_rfl) (fun _ _ _ h => h) (.inl ⟨by rfl, fun W _ => by go_simp⟩) hH ?_
        change wpAnyH _ _ _ _ _ _ _ (Act.put _ (some 179) _) _
        simp only [Act.put, List.setIfInBounds_toArray, List.set_cons_zero, List.set_cons_succ]
        refine wpAnyH_take (i := 27) (v := (.bool false)) rfl (by kernel_rfl) (by kernel_rfl) (by kernel_rfl) (fun _ _ _ h => h) (.inl ⟨by rfl, fun W _ => by go_simp⟩) hH ?_
        change wpAnyH _ _ _ _ _ _ _ (Act.put _ (some 180) _) _
        simp only [Act.put, List.setIfInBounds_toArray, List.set_cons_zero, List.set_cons_succ]
        refine wpAnyH_done (by kernel_rfl) ?_ _
        clear hH
        go_wp2
        exact ⟨⟨j + 1, KK.out.1, by go_num, DU.out⟩, by simpa [intOf] using KK.out.2⟩
      · have h1 : ¬ (j : Int) < (L.length : Int) := by omega
        obtain ⟨c0, _⟩ := RT7.out _ J.out
        have R3w := hide ((J.out.block _ (lt_heap R37.out)).trans R37.out)
        have LCw := hide (LC7.out.below J.out)
        clear hj hlt
        go_upto_region 16 with fail
        clear f2 h1
        go_wp2_with (first | (go_at_call 12; refine (HHc.out _ LCw.out).mono ?_; rintro r U5 ⟨rfl, be⟩; have DU5 := hide (below_next J.out be); obtain ⟨c5, _⟩ := RT7.out _ DU5.out; clear be) | ((with_reducible refine at_list ?_); refine wpList_loadS AT _ rfl g3 rfl TC CZ.out.1 47 R3w.out (by rfl) ?_))
        go_ret
        exact ⟨rfl, below_next B7.out DU5.out⟩
  · obtain ⟨ecm, eer⟩ := CN.out hok
    subst ecm eer
    have key : (decide (n < 0) = true) ∨ (decide (n < 0) = false ∧ decide (n > 2147483647) = true) ∨ (decide (n < 0) = false ∧ decide (n > 2147483647) = false ∧ decide ((x.size : Int) > 96) = true) := by
      by_cases h1 : n < 0
      · exact .inl (decide_eq_true h1)
      · by_cases h2 : 2147483647 < n
        · exact .inr (.inl ⟨decide_eq_false h1, decide_eq_true h2⟩)
        · exact .inr (.inr ⟨decide_eq_false h1, decide_eq_false h2, decide_eq_true (by unfold cbOk at hok; omega)⟩)
    have d1 : V5.cell? ⟨g3, 1, none⟩ = some (.slice ai 0 ci) := by rw [cell_of_row _ _ _ _ _ _ R3b.out]; rfl
    have d2 : V5.cell? ⟨g3, 2, none⟩ = some (.slice ao 0 co) := by rw [cell_of_row _ _ _ _ _ _ R3b.out]; rfl
    clear hok CY CN BN LC5 R3b
    rcases key with h1 | ⟨h1, h2⟩ | ⟨h1, h2, h3⟩
    all_goals
      go_wp2
      go_ret
      exact ⟨rfl, below_next B1.out DV5.out⟩
end
end Go.Proofs.YtdkemnjkhclbkaaDoor
