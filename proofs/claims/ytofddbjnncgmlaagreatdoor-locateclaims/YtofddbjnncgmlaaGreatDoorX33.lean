/- block.Build of one transaction: its contract. The first block: block.Genesis. block.Genesis, block.Whole and the law's awake: their contracts. The contract of the document's Meets; the law TargetMeets: its walk. -/
import Derived.Test.YtofddbjnncgmlaaGreatDoorX32
import Derived.Test.YtofddbjnncgmlaaGreatDoorX22
namespace Go.Proofs.YtofddbjnncgmlaaGreatDoor
open Go.RowKit
open Go.Deep
set_option linter.unusedVariables false
theorem bld_Hd (p r : List UInt8) (hp : p.length = 32) (hr : r.length = 32) (t b : UInt32) (W : World) : (Instr.build 48 #[(0, .int .u32 1), (1, .agg (hc p)), (2, .agg (hc r)), (3, .int .u32 (t.toNat : Int)), (4, .int .u32 (b.toNat : Int))]).run Tryz.prog W = .ok (.agg (⟨1, p, r, t, b, 0, hp, hr⟩ : Hd).cells.toArray) W := by
  obtain ⟨_, _, _, _, _, _, _, _, _, _, _, _, _, _, _, _, _, _, _, _, _, _, _, _, _, _, _, _, _, _, _, _, rfl⟩ := id32' p hp
  obtain ⟨_, _, _, _, _, _, _, _, _, _, _, _, _, _, _, _, _, _, _, _, _, _, _, _, _, _, _, _, _, _, _, _, rfl⟩ := id32' r hr
  kernel_rfl
theorem bld_Bk (h : Hd) (a : Option Addr) (n c : Nat) (W : World) : (Instr.build 93 #[(0, .agg h.cells.toArray), (1, .slice a n c)]).run Tryz.prog W = .ok (.agg (bkA h (.slice a n c))) W := by
  obtain ⟨v, p, r, t, b, o, hp, hr⟩ := h
  obtain ⟨_, _, _, _, _, _, _, _, _, _, _, _, _, _, _, _, _, _, _, _, _, _, _, _, _, _, _, _, _, _, _, _, rfl⟩ := id32' p hp
  obtain ⟨_, _, _, _, _, _, _, _, _, _, _, _, _, _, _, _, _, _, _, _, _, _, _, _, _, _, _, _, _, _, _, _, rfl⟩ := id32' r hr
  kernel_rfl
section
set_option maxRecDepth 10000
set_option maxHeartbeats 4000000
theorem build_yes (p : List UInt8) (hp : p.length = 32) (t b : UInt32) (v : Value) (x : Tq) (w : World) (hL : LQ w v [x]) (ht : x.m.toldE = 0) (h : Hd) (hh : h = ⟨1, p, rtL (idsL [x]), t, b, 0, hp, rtL_len (idsL_32 [x])⟩) (hz : (bkB h [x]).length ≤ 8192) (k : Nat) (hk : k < 4294967296) (hno : ∀ j, j < k → (h.at j).meets = false) (hyes : (h.at k).meets = true) (hK : Kg w) :
    Calls Tryz.prog 143 #[.agg (hc p), .int .u32 (t.toNat : Int), .int .u32 (b.toNat : Int), v] w fun e w' => ∃ ao cap y, e = .returned (.tuple #[.agg (bkA (h.at k) (.slice ao 1 cap)), .int .i64 0]) ∧ (∀ W' : World, (∀ g, w.heap.size ≤ g → g < w'.heap.size → W'.heap[g]? = w'.heap[g]?) → LQ W' (.slice ao 1 cap) [y]) ∧ y.m = x.m ∧ Below w.heap.size w w' := by
  obtain ⟨av, cv, rfl⟩ := hL.l.form
  rw [show ([x] : List Tq).length = 1 from rfl] at hL
  have s1 : (w.alloc (.cells (hc p) 46)).heap.size = w.heap.size + 1 := by simp
  have r1 := (Below.heap_alloc _ (.cells (bkA zHd (.slice none 0 0)) 93) _ (lt_heap (heap_alloc_last w (.cells (hc p) 46)))).trans (heap_alloc_last w (.cells (hc p) 46))
  have r2 := heap_alloc_last (w.alloc (.cells (hc p) 46)) (.cells (bkA zHd (.slice none 0 0)) 93)
  have b1 := ((Below.refl w.heap.size w).alloc (Nat.le_refl _) (.cells (hc p) 46)).alloc (by rw [s1]; omega) (.cells (bkA zHd (.slice none 0 0)) 93)
  rw [s1] at r2
  have B1 := hide b1
  have R1 := hide r1
  have R2 := hide r2
  have KS := hide (hK.next b1)
  have HL := hide (hL.below b1)
  have HR := hide (fun W l q => broot_any (.slice av 1 cv) [x] W l (by simp) q)
  have HE : Hid (∀ W, LQ W (.slice av 1 cv) [x] → Calls Tryz.prog 238 #[.agg (bkA h (.slice av 1 cv))] W fun e w' => e = .returned (.tuple #[.string (txt (bkB h [x])), .int .i64 0]) ∧ Below W.heap.size W w') := fun W l => benc_yes h (.slice av 1 cv) [x] W l (fun y hy => by rw [List.mem_singleton] at hy; subst hy; exact ht) hz (by simp)
  have HM := hide (fun W q => mine_yes h (by rw [hh]) k hk hno hyes W q)
  have HC := hide (fun W l => cloneTxs_one (.slice av 1 cv) x W l)
  have BH : Hid (∀ W, (Instr.build 48 #[(0, .int .u32 1), (1, .agg (hc p)), (2, .agg (hc (rtL (idsL [x])))), (3, .int .u32 (t.toNat : Int)), (4, .int .u32 (b.toNat : Int))]).run Tryz.prog W = .ok (.agg h.cells.toArray) W) := fun W => by
    rw [hh]
    exact bld_Hd p _ hp (rtL_len (idsL_32 [x])) t b W
  have BB := hide (fun W => bld_Bk h av 1 cv W)
  have BC : Hid (∀ W a c, (Instr.build 93 #[(0, .agg (h.at k).cells.toArray), (1, .slice a 1 c)]).run Tryz.prog W = .ok (.agg (bkA (h.at k) (.slice a 1 c))) W) := fun W a c => bld_Bk (h.at k) a 1 c W
  have PL := hide hp
  have RL := hide (rtL_len (idsL_32 [x]))
  have HZ := hide h.size
  have HA := hide h.all
  have KZ := hide (h.at k).size
  have KA' := hide (h.at k).all
  clear b1 r1 r2 hK hL ht hz hno hyes hh hp
  generalize rtL (idsL [x]) = RT at *
  generalize muL (idsL [x]) = MU at *
  generalize txt (bkB h [x]) = EN at *
  generalize hBH : bkA h (.slice av 1 cv) = BHA at *
  clear hBH
  generalize hHC : h.cells.toArray = CH at *
  clear hHC
  generalize hKC : (h.at k).cells.toArray = CK at *
  have HKC := hide hKC
  clear hKC
  go_enter Tryz.func143, Tryz.ntmps143
  go_upto_region 1 with ((with_reducible refine at_list ?_); first | refine wpList_boxA rfl _ rfl (hc p) rfl ?_ | refine wpList_allocA ABk rfl rfl ?_)
  try rw [s1]
  clear s1
  generalize (w.alloc (.cells (hc p) 46)).alloc (.cells (bkA zHd (.slice none 0 0)) 93) = W0 at *
  go_upto_region 2 with (first | (go_at_call 94; refine (HR.out _ HL.out KS.out).mono ?_; rintro r W1 ⟨rfl, be⟩; have D1 := hide be; clear be) | ((with_reducible refine at_list ?_); first | refine wpList_allocA A25 rfl rfl ?_ | refine wpList_store_newA A25 rfl _ _ rfl _ rfl (hc RT) (by rw [hc_size, RL.out]) (hc_one _) rfl rfl ?_))
  have D2 := hide (below_next D1.out ((Below.refl W1.heap.size W1).alloc (Nat.le_refl _) (.cells (hc RT) 46)))
  have R10 := hide (heap_alloc_last W1 (.cells (hc RT) 46))
  clear D1 HR
  generalize W1.alloc (.cells (hc RT) 46) = W2 at *
  generalize W1.heap.size = g10 at *
  have R1b := hide ((D2.out.block _ (lt_heap R1.out)).trans R1.out)
  have PZ : Hid ((hc p).size = 32 ∧ (hc RT).size = 32) := ⟨by rw [hc_size, PL.out], by rw [hc_size, RL.out]⟩
  go_upto_region 3 with ((with_reducible refine at_list ?_); first | refine wpList_loadS A25 _ rfl w.heap.size rfl (hc p) PZ.out.1 46 R1b.out (by rfl) ?_ | refine wpList_loadS A25 _ rfl g10 rfl (hc RT) PZ.out.2 46 R10.out (by rfl) ?_ | refine wpList_bldX rfl _ rfl #[(0, .int .u32 1), (1, .agg (hc p)), (2, .agg (hc RT)), (3, .int .u32 (t.toNat : Int)), (4, .int .u32 (b.toNat : Int))] CH (by simp only [List.map_toArray, List.map_cons, List.map_nil]; rfl) BH.out ?_ | refine wpList_allocA AHd rfl rfl ?_ | refine wpList_store_newA AHd rfl _ _ rfl _ rfl CH HZ.out HA.out rfl rfl ?_)
  have D3 := hide (below_next D2.out ((Below.refl W2.heap.size W2).alloc (Nat.le_refl _) (.cells CH 48)))
  have R12 := hide (heap_alloc_last W2 (.cells CH 48))
  clear R1b R10 D2 BH
  generalize W2.alloc (.cells CH 48) = W3 at *
  generalize W2.heap.size = g12 at *
  go_upto_region 4 with (first | (go_at_call 238; refine (HE.out _ (HL.out.below D3.out)).mono ?_; rintro r W4 ⟨rfl, be⟩; have D4 := hide (below_next D3.out be); have R12b := hide ((be.block _ (lt_heap R12.out)).trans R12.out); clear be) | ((with_reducible refine at_list ?_); first | refine wpList_loadS AHd _ rfl g12 rfl CH HZ.out 48 R12.out (by rfl) ?_ | refine wpList_bldX rfl _ rfl #[(0, .agg CH), (1, .slice av 1 cv)] BHA (by simp only [List.map_toArray, List.map_cons, List.map_nil]; rfl) BB.out ?_))
  clear D3 R12 HE BB
  go_upto_region 6 with fail
  go_upto_region 7 with (first | (go_at_call 21; refine (HM.out _ (KS.out.next D4.out)).mono ?_; rintro r W5 ⟨rfl, be⟩; have D5 := hide (below_next D4.out be); clear be) | ((with_reducible refine at_list ?_); first | refine wpList_loadS AHd _ rfl g12 rfl CH HZ.out 48 R12b.out (by rfl) ?_ | refine wpList_allocA AHd rfl rfl ?_ | refine wpList_store_newA AHd rfl _ _ rfl _ rfl CK KZ.out KA'.out rfl rfl ?_))
  have D6 := hide (below_next D5.out ((Below.refl W5.heap.size W5).alloc (Nat.le_refl _) (.cells CK 48)))
  have R15 := hide (heap_alloc_last W5 (.cells CK 48))
  have NG : Hid (w.heap.size + 1 ≠ W5.heap.size) := by
    have h1 := lt_heap R2.out
    have h2 := D5.out.size
    show w.heap.size + 1 ≠ W5.heap.size
    omega
  clear D4 D5 R12b HM
  generalize W5.alloc (.cells CK 48) = W6 at *
  generalize W5.heap.size = g15 at *
  go_upto_region 9 with fail
  have BW := hide (below_next B1.out D6.out)
  have RZ := hide ((D6.out.block _ (lt_heap R2.out)).trans R2.out)
  have HL6 := hide (HL.out.below D6.out)
  have SS : Hid (∀ W, Below W6.heap.size W6 W → Below w.heap.size w W ∧ W.heap[g15]? = some (.cells CK 48 (0, 0))) := fun W bw => ⟨below_next BW.out bw, (bw.block _ (lt_heap R15.out)).trans R15.out⟩
  have DV1 := hide ((Below.refl W6.heap.size W6).drew)
  refine wp_region_held_drew (S := fun W => Below w.heap.size w W ∧ W.heap[g15]? = some (.cells CK 48 (0, 0))) (by kernel_rfl) (SS.out _ DV1.out) (fun hH => ?_)
  generalize hWd : W6.drew = V1 at *
  clear hWd
  refine wpAnyH_take (i := 0) (v := (.agg CK)) rfl (by kernel_rfl) (by kernel_rfl) (by kernel_rfl) (fun _ _ _ h => h) (yl_load (by rfl) _ (by rfl) _ CK (by rfl) (fun W hS => ld_row AHd KZ.out hS.2)) hH ?_
  change wpAnyH _ _ _ _ _ _ _ (Act.put _ (some 46) _) _
  simp only [Act.put, List.setIfInBounds_toArray, List.set_cons_zero, List.set_cons_succ]
  refine wpAnyH_take (i := 1) (v := (.slice av 1 cv)) rfl (by kernel_rfl) (by kernel_rfl) (by kernel_rfl) (fun _ _ _ h => h) (yl_move (by rfl) _ (by rfl) _ (by rfl)) hH ?_
  change wpAnyH _ _ _ _ _ _ _ (Act.put _ (some 47) _) _
  simp only [Act.put, List.setIfInBounds_toArray, List.set_cons_zero, List.set_cons_succ]
  refine wpAnyH_ready (rs := [2]) (by kernel_rfl) (by simp) (AllReadyH.cons rfl (fun K1 hK1 => ?_) AllReadyH.nil)
  go_simp
  refine (HC.out V1 (HL6.out.below DV1.out)).mono ?_
  rintro r V2 ⟨ao, cap, y, rfl, lq, hm, be⟩
  have DV2 := hide (below_next DV1.out be)
  have LY := hide lq
  have YM := hide hm
  have R3 := hide ((DV2.out.block _ (lt_heap RZ.out)).trans RZ.out)
  refine hK1.out _ _ (SS.out _ DV2.out) (fun hH => ?_)
  clear hK1 be lq hm
  have BZ := hide (bkA_size (h.at k) (.slice ao 1 cap))
  have BA := hide (bkA_all (h.at k) ao 1 cap)
  have BC2 := hide (fun W => BC.out W ao cap)
  generalize hBK : bkA (h.at k) (.slice ao 1 cap) = BK at *
  have HBK := hide hBK
  clear hBK
  refine wpAnyH_take (i := 3) (v := (.agg BK)) rfl (by kernel_rfl) (by kernel_rfl) (by kernel_rfl) (fun _ _ _ h => h) (yl_build (by rfl) _ (by rfl) #[(0, .agg CK), (1, .slice ao 1 cap)] _ (by simp only [List.map_toArray, List.map_cons, List.map_nil]; rfl) BC2.out) hH ?_
  change wpAnyH _ _ _ _ _ _ _ (Act.put _ (some 49) _) _
  simp only [Act.put, List.setIfInBounds_toArray, List.set_cons_zero, List.set_cons_succ]
  refine wpAnyH_ready (rs := [4]) (by kernel_rfl) (by simp) (AllReadyH.cons rfl (fun K1 hK1 => ?_) AllReadyH.nil)
  refine stepStoreA ABk (by rfl) _ _ (by rfl) (w.heap.size + 1) BK BZ.out BA.out (by rfl) (by rfl) (bkA zHd (.slice none 0 0)) (bkA_size _ _) 93 R3.out ?_
  refine hK1.out _ _ ⟨below_setRow (below_next BW.out DV2.out) (by omega) _, (setRow_other _ _ _ _ (Ne.symm NG.out)).trans ((DV2.out.block _ (lt_heap R15.out)).trans R15.out)⟩ (fun hH => ?_)
  clear hK1
  change wpAnyH _ _ _ _ _ _ _ (Act.put _ none _) _
  simp only [Act.put]
  refine wpAnyH_take (i := 5) (v := (.int .i64 0)) rfl (by kernel_rfl) (by kernel_rfl) (by kernel_rfl) (fun _ _ _ h => h) (.inl ⟨by rfl, fun W _ => by go_simp⟩) hH ?_
  change wpAnyH _ _ _ _ _ _ _ (Act.put _ (some 9) _) _
  simp only [Act.put, List.setIfInBounds_toArray, List.set_cons_zero, List.set_cons_succ]
  refine wpAnyH_done (by kernel_rfl) ?_ _
  clear hH
  go_wp2
  have AG : ∀ g', W6.heap.size ≤ g' → (V2.setRow (w.heap.size + 1) BK).heap[g']? = V2.heap[g']? := fun g' hg => setRow_other _ _ _ _ (by have := lt_heap RZ.out; omega)
  exact bodyPost_ret (v := .tuple #[.agg BK, .int .i64 0]) (resA2K ABk Tryz.results143 _ _ (w.heap.size + 1) 93 _ BZ.out rfl (setRow_heap _ _ _ _ _ _ R3.out) _ rfl) rfl ⟨ao, cap, y, by rw [HBK.out], fun W' ag => LY.out W' (fun g hg hl => (ag g (Nat.le_trans (below_next BW.out DV1.out).size hg) (by simpa using hl)).trans (AG g (Nat.le_trans DV1.out.size hg))), YM.out, below_setRow (below_next BW.out DV2.out) (by omega) _⟩
end
end Go.Proofs.YtofddbjnncgmlaaGreatDoor
namespace Go.Proofs.YtofddbjnncgmlaaGreatDoor
open Go.RowKit
open Go.Deep
set_option linter.unusedVariables false
def gX : ByteArray := ⟨#[98, 101, 100, 114, 111, 99, 107]⟩
def gO : Tu := ⟨5000, ⟨#[]⟩⟩
/-- The first block's transaction and header. -/
def gT : Tm := cbT 0 gX [gO]
def gH : Hd := ⟨1, zeros, gT.idT, 1600000000, 545259519, 0, zeros_len, gT.idT_len⟩
theorem gT_told : gT.toldE = 0 := by decide +kernel
theorem gT_len : gT.bytes.length = 71 := by decide +kernel
theorem gT_fit : gT.fit := ⟨by decide, by decide⟩
theorem gH_no : (gH.at 0).meets = false := by decide +kernel
theorem gH_yes : (gH.at 1).meets = true := by decide +kernel
theorem rtL_oneB (i : List UInt8) : rtL [i] = i := rfl
theorem muL_oneB (i : List UInt8) : muL [i] = false := rfl
theorem LX.of_row1 {α : Type} (E : Ek α) {W : World} {g : Nat} {t : TypeId} {x : α} (h : W.heap[g]? = some (.cells (E.enc x).toArray t (0, 0))) : LX E W (.slice (some ⟨g, 0, none⟩) 1 1) [x] :=
  ⟨_, 1, rfl, Nat.le_refl _, fun i hi => by
    have h0 : i = 0 := by simpa using hi
    subst h0
    refine ⟨g, 0, rfl, lt_heap h, ?_⟩
    rw [Nat.zero_mul]
    exact rowAt _ h⟩
theorem bld_gO (W : World) : (Instr.build 193 #[(0, .int .u64 5000)]).run Tryz.prog W = .ok (.agg gO.cells.toArray) W := by kernel_rfl
section
set_option maxRecDepth 10000
set_option maxHeartbeats 4000000
theorem gbuild (x : Tq) (hm : x.m = gT) (v : Value) (w : World) (hL : LQ w v [x]) (hK : Kg w) : Calls Tryz.prog 143 #[.agg (hc zeros), .int .u32 1600000000, .int .u32 545259519, v] w fun e w' => ∃ ao cap y, e = .returned (.tuple #[.agg (bkA (gH.at 1) (.slice ao 1 cap)), .int .i64 0]) ∧ (∀ W' : World, (∀ g, w.heap.size ≤ g → g < w'.heap.size → W'.heap[g]? = w'.heap[g]?) → LQ W' (.slice ao 1 cap) [y]) ∧ y.m = gT ∧ Below w.heap.size w w' := by
  have e1 : idsL [x] = [gT.idT] := by show [x.m.idT] = _; rw [hm]
  have e2 : rtL (idsL [x]) = gT.idT := by rw [e1, rtL_oneB]
  have e3 : txsB [x] = gT.bytes := by show x.m.bytes ++ [] = _; rw [hm, List.append_nil]
  have e4 : bkB gH [x] = gH.bytes ++ countL 1 ++ gT.bytes := by show gH.bytes ++ countL 1 ++ txsB [x] = _; rw [e3]
  have q := build_yes zeros zeros_len 1600000000 545259519 v x w hL (by rw [hm]; exact gT_told) gH (by unfold gH; congr 1; exact e2.symm) (by rw [e4, List.length_append, List.length_append, gH.bytes_len, gT_len]; decide) 1 (by omega) (fun j hj => by
    obtain rfl : j = 0 := by omega
    exact gH_no) gH_yes hK
  rw [hm] at q
  exact q
end
end Go.Proofs.YtofddbjnncgmlaaGreatDoor
namespace Go.Proofs.YtofddbjnncgmlaaGreatDoor
open Go.RowKit
open Go.Deep
set_option linter.unusedVariables false
section
set_option maxRecDepth 10000
set_option maxHeartbeats 4000000
theorem genesis_any (w : World) (hK : Kg w) : Calls Tryz.prog 53 #[] w fun e w' => ∃ ao cap y, e = .returned (.agg (bkA (gH.at 1) (.slice ao 1 cap))) ∧ LQ w' (.slice ao 1 cap) [y] ∧ y.m = gT ∧ Below w.heap.size w w' := by
  have b1 := (Below.refl w.heap.size w).alloc (Nat.le_refl _) (.cells (bkA zHd (.slice none 0 0)) 93)
  have R1 := hide (heap_alloc_last w (.cells (bkA zHd (.slice none 0 0)) 93))
  have B1 := hide b1
  have KS := hide (hK.next b1)
  have HC : Hid (∀ W v, LX KO W v [gO] → Calls Tryz.prog 93 #[.int .i64 0, .string gX, v] W fun e w' => ∃ ai ci ao co, e = .returned (.tuple #[.agg (gT.cells ai ci ao co), .int .i64 0]) ∧ LT w' gT ai ci ao co ∧ Below W.heap.size W w') := fun W v l => cbase_yes 0 gX v [gO] W (by omega) (by decide) l (by decide)
  have BO := hide bld_gO
  have GX : Hid (gX = ⟨#[98, 101, 100, 114, 111, 99, 107]⟩) := rfl
  clear b1 hK
  go_enter Tryz.func53, Tryz.ntmps53
  go_upto_region 1 with ((with_reducible refine at_list ?_); refine wpList_allocA ABk rfl rfl ?_)
  generalize w.alloc (.cells (bkA zHd (.slice none 0 0)) 93) = W0 at *
  have GZ : Hid (gO.cells.toArray.size = 2) := rfl
  have LO := hide (LX.of_row1 KO (heap_alloc_last W0 (.cells (KO.enc gO).toArray 193)))
  have D1 := hide ((Below.refl W0.heap.size W0).alloc (Nat.le_refl _) (.cells (KO.enc gO).toArray 193))
  have TZ : Hid (∀ ai ci ao co, (gT.cells ai ci ao co).size = 4) := fun _ _ _ _ => rfl
  have T1 := hide gT.one
  rw [← GX.out]
  go_upto_region 2 with (first | (go_at_call 93; refine (HC.out _ _ LO.out).mono ?_; rintro r W2 ⟨ai, ci, ao, co, rfl, lt, be⟩; have D2 := hide (below_next D1.out be); have LT2 := hide lt; clear be lt) | ((with_reducible refine at_list ?_); first | refine wpList_bldX rfl _ rfl #[(0, .int .u64 5000)] gO.cells.toArray (by simp only [List.map_toArray, List.map_cons, List.map_nil]; rfl) BO.out ?_ | refine Ek.wpBs1 KO rfl _ rfl gO rfl ?_ | refine wpList_allocA AT rfl rfl ?_ | refine wpList_store_newA AT rfl _ _ rfl _ rfl (gT.cells ai ci ao co) (TZ.out _ _ _ _) (T1.out _ _ _ _) rfl rfl ?_))
  have R2 := hide (heap_alloc_last W2 (.cells (gT.cells ai ci ao co) 190))
  have b3 := (Below.refl W2.heap.size W2).alloc (Nat.le_refl _) (.cells (gT.cells ai ci ao co) 190)
  have D3 := hide (below_next D2.out b3)
  have LT3 := hide (LT2.out.below b3)
  obtain ⟨X, hX⟩ : ∃ X : Tq, X = ⟨gT, ai, ci, ao, co⟩ := ⟨_, rfl⟩
  have XM : Hid (X.m = gT) := by show X.m = gT; rw [hX]
  have XA : gT.cells ai ci ao co = X.arr := by rw [hX]; rfl
  have XT : Hid (LT (W2.alloc (.cells (gT.cells ai ci ao co) 190)) X.m X.ai X.ci X.ao X.co) := by rw [hX]; exact LT3.out
  clear hX
  generalize gT.cells ai ci ao co = CX at *
  subst XA
  clear b3 LT2 LT3 D1 D2 LO HC BO T1 TZ GZ
  generalize W2.alloc (.cells X.arr 190) = W3 at *
  generalize W2.heap.size = g1 at *
  have b4 := (Below.refl W3.heap.size W3).alloc (Nat.le_refl _) (.cells (KT.enc X).toArray 190)
  have D4 := hide (below_next D3.out b4)
  have LQ4 : Hid (LQ (W3.alloc (.cells (KT.enc X).toArray 190)) (.slice (some ⟨W3.heap.size, 0, none⟩) 1 1) [X]) := ⟨LX.of_row1 KT (heap_alloc_last W3 _), fun y hy => by
    rw [List.mem_singleton] at hy
    subst hy
    exact ⟨XT.out.below b4, by rw [XM.out]; exact gT_fit⟩⟩
  have HB := hide (fun W v l q => gbuild X XM.out v W l q)
  have XZ : Hid (X.arr.size = 4) := rfl
  have NW : Hid (w.heap.size < W0.heap.size) := lt_heap R1.out
  clear b4
  go_upto_region 3 with (first | (go_at_call 143; refine (HB.out _ _ LQ4.out (KS.out.next D4.out)).mono ?_; rintro r W5 ⟨ao2, cap, y, rfl, lq, ym, be⟩; have D5 := hide (below_next D4.out be); have LQ5 := hide lq; have YM := hide ym; have BZ := hide (bkA_size (gH.at 1) (.slice ao2 1 cap)); have BA := hide (bkA_all (gH.at 1) ao2 1 cap); have AG := hide (Nat.le_trans NW.out D4.out.size); clear be lq ym) | ((with_reducible refine at_list ?_); first | refine wpList_buildA A25 rfl rfl ?_ | refine wpList_loadS AT _ rfl g1 rfl X.arr XZ.out 190 R2.out (by rfl) ?_ | refine Ek.wpBs1 KT rfl _ rfl X rfl ?_ | refine wpList_allocA ABk rfl rfl ?_ | refine wpList_store_newA ABk rfl _ _ rfl _ rfl (bkA (gH.at 1) (.slice ao2 1 cap)) BZ.out BA.out rfl rfl ?_))
  have R5 := hide (heap_alloc_last W5 (.cells (bkA (gH.at 1) (.slice ao2 1 cap)) 93))
  have b6 := (Below.refl W5.heap.size W5).alloc (Nat.le_refl _) (.cells (bkA (gH.at 1) (.slice ao2 1 cap)) 93)
  have D6 := hide (below_next D5.out b6)
  have R6 := hide ((D6.out.block _ (lt_heap R1.out)).trans R1.out)
  have LQ6 : Hid (LQ ((W5.alloc (.cells (bkA (gH.at 1) (.slice ao2 1 cap)) 93)).setRow w.heap.size (bkA (gH.at 1) (.slice ao2 1 cap))) (.slice ao2 1 cap) [y]) := LQ5.out _ (fun g h1 h2 => (setRow_other _ _ _ _ (by have := AG.out; omega)).trans (b6.block g h2))
  clear b6 LQ5
  generalize W5.alloc (.cells (bkA (gH.at 1) (.slice ao2 1 cap)) 93) = W6 at *
  generalize W5.heap.size = g3 at *
  generalize hBK : bkA (gH.at 1) (.slice ao2 1 cap) = BK at *
  have HBK := hide hBK
  clear hBK
  go_wp2_with ((with_reducible refine at_list ?_); first | refine wpList_loadS ABk _ rfl g3 rfl BK BZ.out 93 R5.out (by rfl) ?_ | refine wpList_storeA ABk rfl _ _ rfl w.heap.size BK BZ.out BA.out rfl rfl (bkA zHd (.slice none 0 0)) (bkA_size _ _) 93 R6.out ?_)
  exact bodyPost_ret (v := .agg BK) (resA ABk Tryz.results53 _ _ w.heap.size 93 _ BZ.out rfl (setRow_heap _ _ _ _ _ _ R6.out)) rfl ⟨ao2, cap, y, by rw [HBK.out], LQ6.out, YM.out, below_setRow (below_next B1.out D6.out) (Nat.le_refl _) _⟩
/-- Is a block whole? -/
def whB (h : Hd) (L : List Tq) : Bool := decide (0 < L.length) && ((rtL (idsL L) == h.root) && !muL (idsL L))
theorem whB_one (y : Tq) (hy : y.m = gT) : whB (gH.at 1) [y] = true := by
  have e1 : idsL [y] = [gT.idT] := by show [y.m.idT] = _; rw [hy]
  have e2 : (gH.at 1).root = gT.idT := rfl
  unfold whB
  rw [e1, e2, rtL_oneB, muL_oneB, beq_self_eq_true]
  rfl
end
end Go.Proofs.YtofddbjnncgmlaaGreatDoor
namespace Go.Proofs.YtofddbjnncgmlaaGreatDoor
open Go.RowKit
open Go.Deep
section
set_option maxRecDepth 10000
set_option maxHeartbeats 2000000
theorem meetsN_any (l : List UInt8) (hl : l.length = 32) (b : Nat) (hb : b < 4294967296) (w : World) : Calls Tryz.prog 182 #[.agg (hc l), .int .u32 (b : Int)] w fun e w' => e = .returned (.bool (mt l b)) ∧ Below w.heap.size w w' := by
  have HE := hide fun W => expandN_any b hb W
  have HO := hide fun W => ofN_any l hl W
  have hX : xt b < MB := Nat.lt_of_le_of_lt (xt_le b) Lm_MB
  have HC := hide fun W => less_any _ _ hX (Nat.lt_trans (hv_lt l) M_MB) W
  have J0 := hide (Rc.start1 w 45 (hc l))
  have hcs := hide (show (hc l).size = 32 by rw [hc_size]; exact hl)
  have hm : mt l b = (okB b && !decide (xt b < hv l)) := by
    unfold mt xt
    cases okB b
    · rw [Bool.false_and, Bool.false_and]
    · rw [Bool.true_and, Bool.true_and, if_pos rfl]
      generalize hv l = V
      generalize tgt b = T
      rw [Bool.eq_iff_iff]
      simp
  rw [hm]
  generalize decide (xt b < hv l) = lt at *
  generalize hv l = V at *
  generalize xt b = X at *
  clear hm hX hl hb
  generalize okB b = ok at *
  cases ok
  · rw [Bool.false_and]
    go_enter Tryz.func182, Tryz.ntmps182
    go_upto_region 1 with (refine wpList_boxA rfl _ rfl (hc l) rfl ?_)
    generalize w.alloc (.cells (hc l) 45) = W0 at *
    go_upto_region 2 with (first | (go_at_call 178; refine (HE.out _).mono ?_; rintro e w1 ⟨rfl, be⟩; have J1 := hide ((J0.out.next be).new 180 (bn X)); clear be) | refine wpList_allocA AN rfl rfl ?_ | refine wpList_store_newA AN rfl _ _ rfl _ rfl (bn X) (bn_size _) (bn_one _) rfl rfl ?_)
    generalize w1.alloc (.cells (bn X) 180) = W1 at *
    generalize w1.heap.size = g5 at *
    obtain ⟨I, hne, F, i0, h0, hJ, hcl⟩ := J1.out.cls
    refine wp_region_class_lit (by kernel_rfl) (by kernel_rfl) i0 h0 ?_
    repeat (go_big_quiet_step (fail))
    refine wpQuiet_nil ?_
    rintro _ ⟨iq, rfl⟩
    go_wp2
    go_ret
    exact ⟨rfl, (hJ.out iq).bel⟩
  · rw [Bool.true_and]
    go_enter Tryz.func182, Tryz.ntmps182
    go_upto_region 1 with (refine wpList_boxA rfl _ rfl (hc l) rfl ?_)
    generalize w.alloc (.cells (hc l) 45) = W0 at *
    go_upto_region 2 with (first | (go_at_call 178; refine (HE.out _).mono ?_; rintro e w1 ⟨rfl, be⟩; have J1 := hide ((J0.out.next be).new 180 (bn X)); clear be) | refine wpList_allocA AN rfl rfl ?_ | refine wpList_store_newA AN rfl _ _ rfl _ rfl (bn X) (bn_size _) (bn_one _) rfl rfl ?_)
    generalize w1.alloc (.cells (bn X) 180) = W1 at *
    generalize w1.heap.size = g5 at *
    obtain ⟨I, hne, F, i0, h0, hJ, hcl⟩ := J1.out.cls
    refine wp_region_class_lit (by kernel_rfl) (by kernel_rfl) i0 h0 ?_
    repeat (first | ((go_big_quiet_want; first | refine quiet_loadA AN _ (by rfl) g5 (by rfl) (bn X) (bn_size _) 180 (Rc.of hJ (by simp)) ?_ | refine quiet_loadA A49 _ (by rfl) w.heap.size (by rfl) (hc l) hcs.out 45 (Rc.of hJ (by simp)) ?_); go_big_quiet_on; simp only [Act.put, List.setIfInBounds_toArray, List.set_cons_succ, List.set_cons_zero]) | go_big_quiet_step (first | (go_at_call 265; exact class_of hcl.out (HO.out _)) | (go_at_call 180; exact class_of hcl.out (HC.out _))))
    refine wpQuiet_nil ?_
    rintro _ ⟨iq, rfl⟩
    go_wp2
    go_ret
    exact ⟨rfl, (hJ.out iq).bel⟩
end
end Go.Proofs.YtofddbjnncgmlaaGreatDoor
