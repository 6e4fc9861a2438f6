/- block.Genesis, block.Whole and the law's awake: their contracts. The law's one: its contract. block.IsCoinbase, block.Height, block.Reward and the document's Height and Reward: their contracts. valid.Check of a block of one coinbase: its contract. The contract of the document's Meets; the law TargetMeets: its walk. -/
import Derived.Test.YtofddbjnncgmlabGreatDoorX30
import Derived.Test.YtofddbjnncgmlabGreatDoorX11
import Derived.Test.YtofddbjnncgmlabGreatDoorX26
import Derived.Test.YtofddbjnncgmlabGreatDoorX28
import Derived.Test.YtofddbjnncgmlabGreatDoorX18
namespace Go.Proofs.YtofddbjnncgmlabGreatDoor
open Go.RowKit
open Go.Deep
set_option linter.unusedVariables false
section
set_option maxRecDepth 10000
set_option maxHeartbeats 4000000
theorem genesis_any (w : World) (hK : Kg w) : Calls Tryz.prog 27 #[] w fun e w' => ∃ ao cap y, e = .returned (.agg (bkA (gH.at 1) (.slice ao 1 cap))) ∧ LQ w' (.slice ao 1 cap) [y] ∧ y.m = gT ∧ Below w.heap.size w w' := by
  have b1 := (Below.refl w.heap.size w).alloc (Nat.le_refl _) (.cells (bkA zHd (.slice none 0 0)) 30)
  have R1 := hide (heap_alloc_last w (.cells (bkA zHd (.slice none 0 0)) 30))
  have B1 := hide b1
  have KS := hide (hK.next b1)
  have HC : Hid (∀ W v, LX KO W v [gO] → Calls Tryz.prog 28 #[.int .i64 0, .string gX, v] W fun e w' => ∃ ai ci ao co, e = .returned (.tuple #[.agg (gT.cells ai ci ao co), .int .i64 0]) ∧ LT w' gT ai ci ao co ∧ Below W.heap.size W w') := fun W v l => cbase_yes 0 gX v [gO] W (by omega) (by decide) l (by decide)
  have BO := hide bld_gO
  have GX : Hid (gX = ⟨#[98, 101, 100, 114, 111, 99, 107]⟩) := rfl
  clear b1 hK
  go_enter Tryz.func27, Tryz.ntmps27
  go_upto_region 1 with ((with_reducible refine at_list ?_); refine wpList_allocA ABk rfl rfl ?_)
  generalize w.alloc (.cells (bkA zHd (.slice none 0 0)) 30) = W0 at *
  have GZ : Hid (gO.cells.toArray.size = 2) := rfl
  have LO := hide (LX.of_row1 KO (heap_alloc_last W0 (.cells (KO.enc gO).toArray 70)))
  have D1 := hide ((Below.refl W0.heap.size W0).alloc (Nat.le_refl _) (.cells (KO.enc gO).toArray 70))
  have TZ : Hid (∀ ai ci ao co, (gT.cells ai ci ao co).size = 4) := fun _ _ _ _ => rfl
  have T1 := hide gT.one
  rw [← GX.out]
  go_upto_region 2 with (first | (go_at_call 28; refine (HC.out _ _ LO.out).mono ?_; rintro r W2 ⟨ai, ci, ao, co, rfl, lt, be⟩; have D2 := hide (below_next D1.out be); have LT2 := hide lt; clear be lt) | ((with_reducible refine at_list ?_); first | refine wpList_bldX rfl _ rfl #[(0, .int .u64 5000)] gO.cells.toArray (by simp only [List.map_toArray, List.map_cons, List.map_nil]; rfl) BO.out ?_ | refine Ek.wpBs1 KO rfl _ rfl gO rfl ?_ | refine wpList_allocA AT rfl rfl ?_ | refine wpList_store_newA AT rfl _ _ rfl _ rfl (gT.cells ai ci ao co) (TZ.out _ _ _ _) (T1.out _ _ _ _) rfl rfl ?_))
  have R2 := hide (heap_alloc_last W2 (.cells (gT.cells ai ci ao co) 90))
  have b3 := (Below.refl W2.heap.size W2).alloc (Nat.le_refl _) (.cells (gT.cells ai ci ao co) 90)
  have D3 := hide (below_next D2.out b3)
  have LT3 := hide (LT2.out.below b3)
  obtain ⟨X, hX⟩ : ∃ X : Tq, X = ⟨gT, ai, ci, ao, co⟩ := ⟨_, rfl⟩
  have XM : Hid (X.m = gT) := by show X.m = gT; rw [hX]
  have XA : gT.cells ai ci ao co = X.arr := by rw [hX]; rfl
  have XT : Hid (LT (W2.alloc (.cells (gT.cells ai ci ao co) 90)) X.m X.ai X.ci X.ao X.co) := by rw [hX]; exact LT3.out
  clear hX
  generalize gT.cells ai ci ao co = CX at *
  subst XA
  clear b3 LT2 LT3 D1 D2 LO HC BO T1 TZ GZ
  generalize W2.alloc (.cells X.arr 90) = W3 at *
  generalize W2.heap.size = g1 at *
  have b4 := (Below.refl W3.heap.size W3).alloc (Nat.le_refl _) (.cells (KT.enc X).toArray 90)
  have D4 := hide (below_next D3.out b4)
  have LQ4 : Hid (LQ (W3.alloc (.cells (KT.enc X).toArray 90)) (.slice (some ⟨W3.heap.size, 0, none⟩) 1 1) [X]) := ⟨LX.of_row1 KT (heap_alloc_last W3 _), fun y hy => by
    rw [List.mem_singleton] at hy
    subst hy
    exact ⟨XT.out.below b4, by rw [XM.out]; exact gT_fit⟩⟩
  have HB := hide (fun W v l q => gbuild X XM.out v W l q)
  have XZ : Hid (X.arr.size = 4) := rfl
  have NW : Hid (w.heap.size < W0.heap.size) := lt_heap R1.out
  clear b4
  go_upto_region 3 with (first | (go_at_call 63; refine (HB.out _ _ LQ4.out (KS.out.next D4.out)).mono ?_; rintro r W5 ⟨ao2, cap, y, rfl, lq, ym, be⟩; have D5 := hide (below_next D4.out be); have LQ5 := hide lq; have YM := hide ym; have BZ := hide (bkA_size (gH.at 1) (.slice ao2 1 cap)); have BA := hide (bkA_all (gH.at 1) ao2 1 cap); have AG := hide (Nat.le_trans NW.out D4.out.size); clear be lq ym) | ((with_reducible refine at_list ?_); first | refine wpList_buildA A25 rfl rfl ?_ | refine wpList_loadS AT _ rfl g1 rfl X.arr XZ.out 90 R2.out (by rfl) ?_ | refine Ek.wpBs1 KT rfl _ rfl X rfl ?_ | refine wpList_allocA ABk rfl rfl ?_ | refine wpList_store_newA ABk rfl _ _ rfl _ rfl (bkA (gH.at 1) (.slice ao2 1 cap)) BZ.out BA.out rfl rfl ?_))
  have R5 := hide (heap_alloc_last W5 (.cells (bkA (gH.at 1) (.slice ao2 1 cap)) 30))
  have b6 := (Below.refl W5.heap.size W5).alloc (Nat.le_refl _) (.cells (bkA (gH.at 1) (.slice ao2 1 cap)) 30)
  have D6 := hide (below_next D5.out b6)
  have R6 := hide ((D6.out.block _ (lt_heap R1.out)).trans R1.out)
  have LQ6 : Hid (LQ ((W5.alloc (.cells (bkA (gH.at 1) (.slice ao2 1 cap)) 30)).setRow w.heap.size (bkA (gH.at 1) (.slice ao2 1 cap))) (.slice ao2 1 cap) [y]) := LQ5.out _ (fun g h1 h2 => (setRow_other _ _ _ _ (by have := AG.out; omega)).trans (b6.block g h2))
  clear b6 LQ5
  generalize W5.alloc (.cells (bkA (gH.at 1) (.slice ao2 1 cap)) 30) = W6 at *
  generalize W5.heap.size = g3 at *
  generalize hBK : bkA (gH.at 1) (.slice ao2 1 cap) = BK at *
  have HBK := hide hBK
  clear hBK
  go_wp2_with ((with_reducible refine at_list ?_); first | refine wpList_loadS ABk _ rfl g3 rfl BK BZ.out 30 R5.out (by rfl) ?_ | refine wpList_storeA ABk rfl _ _ rfl w.heap.size BK BZ.out BA.out rfl rfl (bkA zHd (.slice none 0 0)) (bkA_size _ _) 30 R6.out ?_)
  exact bodyPost_ret (v := .agg BK) (resA ABk Tryz.results27 _ _ w.heap.size 30 _ BZ.out rfl (setRow_heap _ _ _ _ _ _ R6.out)) rfl ⟨ao2, cap, y, by rw [HBK.out], LQ6.out, YM.out, below_setRow (below_next B1.out D6.out) (Nat.le_refl _) _⟩
/-- Is a block whole? -/
def whB (h : Hd) (L : List Tq) : Bool := decide (0 < L.length) && ((rtL (idsL L) == h.root) && !muL (idsL L))
theorem whB_one (y : Tq) (hy : y.m = gT) : whB (gH.at 1) [y] = true := by
  have e1 : idsL [y] = [gT.idT] := by show [y.m.idT] = _; rw [hy]
  have e2 : (gH.at 1).root = gT.idT := rfl
  unfold whB
  rw [e1, e2, rtL_oneB, muL_oneB, beq_self_eq_true]
  rfl
end
end Go.Proofs.YtofddbjnncgmlabGreatDoor
namespace Go.Proofs.YtofddbjnncgmlabGreatDoor
open Go.RowKit
open Go.Deep
set_option linter.unusedVariables false
theorem Ti.seqR {W : World} {g off : Nat} (x : Ti) (h : W.rangeAt g off x.cells) : W.cell? ⟨g, off + 34, none⟩ = some (.int .u32 (x.seq.toNat : Int)) := h 34 _ (by rw [← List.getElem?_toArray]; exact x.at34)
theorem Ti.keyR' {W : World} {g off : Nat} (x : Ti) (h : W.rangeAt g off x.cells) : W.cell? ⟨g, off + 33, none⟩ = some (.string x.key) := h 33 _ (by rw [← List.getElem?_toArray]; exact x.at33)
theorem Tu.valR {W : World} {g off : Nat} (x : Tu) (h : W.rangeAt g off x.cells) : W.cell? ⟨g, off, none⟩ = some (.int .u64 (x.val.toNat : Int)) := h 0 _ rfl
theorem Tu.lockR {W : World} {g off : Nat} (x : Tu) (h : W.rangeAt g off x.cells) : W.cell? ⟨g, off + 1, none⟩ = some (.string x.lock) := h 1 _ rfl
theorem bld_Or (x : Tu) (W : World) : (Instr.build 99 #[(0, .int .u64 (x.val.toNat : Int)), (1, .string x.lock)]).run Tryz.prog W = .ok (.agg x.cells.toArray) W := by kernel_rfl
theorem ld25_mid {W : World} {g off : Nat} {y : List UInt8} (hy : y.length = 32) (hr : W.rangeAt g off (cellsL y)) : (Instr.loadAt 25 (.pointer (some ⟨g, off, none⟩))).run Tryz.prog W = .ok (.agg (hc y)) W :=
  run_loadAt_mid W g off 25 _ _ hr Tryz.underlying25 rfl (by rw [cellsL_len, hy]; kernel_rfl)
section
set_option maxRecDepth 10000
set_option maxHeartbeats 4000000
end
end Go.Proofs.YtofddbjnncgmlabGreatDoor
namespace Go.Proofs.YtofddbjnncgmlabGreatDoor
open Go.RowKit
open Go.Deep
set_option linter.unusedVariables false
/-- The height that a key says. -/
def hgK (K : ByteArray) : Nat × Bool := if 4 ≤ K.size ∧ leN (K.extract 0 4).data.toList ≤ 2147483647 then (leN (K.extract 0 4).data.toList, true) else (0, false)
def hgI : List Ti → Nat × Bool
  | x :: _ => hgK x.key
  | [] => (0, false)
def Tm.hgt (m : Tm) : Nat × Bool := if m.base = true then hgI m.ins else (0, false)
theorem hgI_at (L : List Ti) (h : 0 < L.length) : hgI L = hgK L[0].key := by
  cases L with
  | nil => exact absurd h (by decide)
  | cons x r => rfl
theorem Tm.base_pos (m : Tm) (h : m.base = true) : 0 < m.ins.length := by
  rcases Nat.eq_zero_or_pos m.ins.length with h0 | h0
  · rw [m.base_no (by omega)] at h
    cases h
  · exact h0
/-- What a block of a height makes. -/
def rwd (n : Int) : Nat := if n < 0 then 0 else 5000 / 2 ^ (n.toNat / 64)
theorem half_step (i : Nat) : 5000 / 2 ^ i / 2 = 5000 / 2 ^ (i + 1) := by rw [Nat.div_div_eq_div_mul, Nat.pow_succ]
theorem half_zero (i j : Nat) (h : 5000 / 2 ^ i = 0) (hj : i ≤ j) : 5000 / 2 ^ j = 0 := by
  have := Nat.div_le_div_left (a := 5000) (Nat.pow_le_pow_right (show 0 < 2 by omega) hj) (Nat.pow_pos (show 0 < 2 by omega))
  rw [h] at this
  exact Nat.le_zero.1 this
theorem half_most (i : Nat) : 5000 / 2 ^ min i 64 = 5000 / 2 ^ i := by
  by_cases h : i ≤ 64
  · rw [Nat.min_eq_left h]
  · rw [Nat.min_eq_right (by omega), half_zero 13 i (by decide) (by omega)]
theorem shr_run (h : Nat) (w : World) : (Op.shift .shr .u64 5000 .i64 ((h : Int) / 64)).run Tryz.prog w = .ok (.int .u64 ((5000 / 2 ^ (h / 64) : Nat) : Int)) w := by
  have e : ((h : Int) / 64) = ((h / 64 : Nat) : Int) := by omega
  rw [e]
  generalize h / 64 = i
  have key : Op.shift .shr .u64 5000 .i64 (i : Int) = pure (.int .u64 ((5000 : Int).fdiv (2 ^ min i 64))) := by
    unfold Op.shift
    rw [if_neg (by omega)]
    rfl
  have val : (5000 : Int).fdiv (2 ^ min i 64) = ((5000 / 2 ^ i : Nat) : Int) := by
    rw [← half_most i]
    generalize min i 64 = j
    have hp : (0 : Int) ≤ 2 ^ j := Int.le_of_lt (Int.pow_pos (by omega))
    rw [Int.fdiv_eq_ediv_of_nonneg _ hp]
    simp
  rw [key, val]
  rfl
section
set_option maxRecDepth 10000
set_option maxHeartbeats 4000000
theorem isCb_any (m : Tm) (ai : Option Addr) (ci : Nat) (ao : Option Addr) (co : Nat) (w : World) (hl : LT w m ai ci ao co) (hf : m.fit) : Calls Tryz.prog 35 #[.agg (m.cells ai ci ao co)] w fun e w' => e = .returned (.bool m.base) ∧ Below w.heap.size w w' := by
  have b1 := (Below.refl w.heap.size w).alloc (Nat.le_refl _) (.cells (m.cells ai ci ao co) 90)
  have R1 := hide (heap_alloc_last w (.cells (m.cells ai ci ao co) 90))
  have B1 := hide b1
  have HB := hide (base_any m ai ci ao co _ (hl.below b1) hf)
  have CZ : Hid ((m.cells ai ci ao co).size = 4) := rfl
  clear b1 hl hf
  generalize m.cells ai ci ao co = C at *
  generalize m.base = V at *
  go_enter Tryz.func35, Tryz.ntmps35
  go_upto_region 1 with ((with_reducible refine at_list ?_); refine wpList_boxA rfl _ rfl C rfl ?_)
  generalize w.alloc (.cells C 90) = W0 at *
  go_wp2_with (first | (go_at_call 71; refine HB.out.mono ?_; rintro r W1 ⟨rfl, be⟩; have D1 := hide be; clear be) | ((with_reducible refine at_list ?_); refine wpList_loadS AT _ rfl w.heap.size rfl C CZ.out 90 R1.out (by rfl) ?_))
  go_ret
  exact ⟨rfl, below_next B1.out D1.out⟩
theorem height_any (m : Tm) (ai : Option Addr) (ci : Nat) (ao : Option Addr) (co : Nat) (w : World) (hl : LT w m ai ci ao co) (hf : m.fit) (hk : ∀ x ∈ m.ins, x.key.size ≤ maxLen) : Calls Tryz.prog 117 #[.agg (m.cells ai ci ao co)] w fun e w' => e = .returned (.tuple #[.int .i64 (m.hgt.1 : Int), .bool m.hgt.2]) ∧ Below w.heap.size w w' := by
  have b1 := (Below.refl w.heap.size w).alloc (Nat.le_refl _) (.cells (m.cells ai ci ao co) 90)
  have R1 := hide (heap_alloc_last w (.cells (m.cells ai ci ao co) 90))
  have B1 := hide b1
  have HB := hide (isCb_any m ai ci ao co _ (hl.below b1) hf)
  have HL := hide (hl.below b1)
  have CZ : Hid ((m.cells ai ci ao co).size = 4) := rfl
  have RC : Hid (∀ W : World, W.heap[w.heap.size]? = some (.cells (m.cells ai ci ao co) 90 (0, 0)) → W.cell? ⟨w.heap.size, 1, none⟩ = some (.slice ai m.ins.length ci)) := fun W e => by rw [cell_of_row _ _ _ _ _ _ e]; rfl
  have HK := hide hk
  clear b1 hl hf hk
  generalize m.cells ai ci ao co = C at *
  cases hb : m.base
  · have E1 : Hid (m.hgt = (0, false)) := by show _ = _; rw [Tm.hgt, hb, if_neg (by decide)]
    rw [hb] at HB
    clear hb
    go_enter Tryz.func117, Tryz.ntmps117
    go_upto_region 1 with ((with_reducible refine at_list ?_); refine wpList_boxA rfl _ rfl C rfl ?_)
    generalize w.alloc (.cells C 90) = W0 at *
    go_wp2_with (first | (go_at_call 35; refine HB.out.mono ?_; rintro r W1 ⟨rfl, be⟩; have D1 := hide be; clear be) | ((with_reducible refine at_list ?_); refine wpList_loadS AT _ rfl w.heap.size rfl C CZ.out 90 R1.out (by rfl) ?_))
    go_ret2
    exact ⟨by rw [E1.out]; rfl, below_next B1.out D1.out⟩
  · have hp := m.base_pos hb
    have E1 : Hid (m.hgt = hgK (m.ins[0]'hp).key) := by show _ = _; rw [Tm.hgt, if_pos hb, hgI_at _ hp]
    rw [hb] at HB
    obtain ⟨ga, oa, rfl⟩ := HL.out.i.base hp
    have RK : Hid (∀ W, Below (w.alloc (.cells C 90)).heap.size (w.alloc (.cells C 90)) W → W.cell? ⟨ga, oa + 33, none⟩ = some (.string (m.ins[0]'hp).key)) := fun W b => by
      have := Ti.keyR' _ ((HL.out.below b).i.range 0 hp)
      rwa [Nat.zero_mul, Nat.add_zero] at this
    have KM := hide (HK.out _ (List.getElem_mem hp))
    have h9 : (0 : Int) < (m.ins.length : Int) := by omega
    clear hb HK HL
    generalize (m.ins[0]'hp).key = K at *
    go_enter Tryz.func117, Tryz.ntmps117
    go_upto_region 1 with ((with_reducible refine at_list ?_); refine wpList_boxA rfl _ rfl C rfl ?_)
    generalize w.alloc (.cells C 90) = W0 at *
    go_upto_region 3 with (first | (go_at_call 35; refine HB.out.mono ?_; rintro r W1 ⟨rfl, be⟩; have D1 := hide be; clear be) | ((with_reducible refine at_list ?_); refine wpList_loadS AT _ rfl w.heap.size rfl C CZ.out 90 R1.out (by rfl) ?_))
    have c1 := RC.out _ ((D1.out.block _ (lt_heap R1.out)).trans R1.out)
    have c2 := RK.out _ D1.out
    go_upto_region 4 with (go_at_call 142; refine (newReader_any K _).mono ?_; rintro r W2 ⟨rfl, rfl⟩)
    have S0 : Hid (Rst (W1.alloc (.cells #[.string K, .int .i64 0, .int .i64 0] 270)) W1.heap.size K 0 0) := heap_alloc_last W1 _
    have D2 := hide (below_next D1.out ((Below.refl W1.heap.size W1).alloc (Nat.le_refl _) (.cells #[.string K, .int .i64 0, .int .i64 0] 270)))
    have GW := hide D1.out.size
    clear c1 c2 D1 HB RK RC
    generalize W1.alloc (.cells #[.string K, .int .i64 0, .int .i64 0] 270) = W2 at *
    generalize W1.heap.size = gr at *
    go_upto_region 5 with (go_at_call 143; refine (rU32 gr K _ 0 0 S0.out KM.out (by omega) (by omega)).mono ?_; rintro r W3 ⟨rfl, s3, f3⟩; have S3 := hide s3; have D3 := hide (D2.out.trans (f3.to_below GW.out D2.out.size)); clear s3 f3)
    by_cases h4 : 4 ≤ K.size
    · have T1 : rtake K 0 0 4 = (4, 0, K.extract 0 4) := by
        unfold rtake
        rw [if_neg (by decide), if_neg (by decide), if_neg (by omega)]
        rfl
      rw [T1] at S3
      have lt4 := leN_lt' (K.extract 0 4).data.toList 4 4294967296 (by simp; omega) rfl
      rw [T1]
      have HG : hgK K = if leN (K.extract 0 4).data.toList ≤ 2147483647 then (leN (K.extract 0 4).data.toList, true) else (0, false) := by
        unfold hgK
        by_cases hq : leN (K.extract 0 4).data.toList ≤ 2147483647
        · rw [if_pos ⟨h4, hq⟩, if_pos hq]
        · rw [if_neg (fun h => hq h.2), if_neg hq]
      have E2 := hide (E1.out.trans HG)
      clear HG T1 h4 E1
      dsimp only at S3 ⊢
      generalize leN (K.extract 0 4).data.toList = N at *
      by_cases hq : N ≤ 2147483647
      · have E3 := hide (E2.out.trans (if_pos hq))
        have q1 : decide ((N : Int) > 2147483647) = false := decide_eq_false (by omega)
        have q2 : ¬ (N : Int) > 2147483647 := by omega
        have e5 : IntKind.i64.wrap (N : Int) = (N : Int) := wrapI _ (by omega) (by omega)
        clear hq lt4
        go_wp2_with (go_at_call 144; refine (rErr gr K _ 4 0 S3.out).mono ?_; rintro r W4 ⟨rfl, h9⟩; subst W4)
        go_ret2
        exact ⟨by rw [E3.out]; rfl, below_next B1.out D3.out⟩
      · have E3 := hide (E2.out.trans (if_neg hq))
        have q1 : decide ((N : Int) > 2147483647) = true := decide_eq_true (by omega)
        have q2 : (N : Int) > 2147483647 := by omega
        clear hq lt4
        go_wp2_with (go_at_call 144; refine (rErr gr K _ 4 0 S3.out).mono ?_; rintro r W4 ⟨rfl, h9⟩; subst W4)
        go_ret2
        exact ⟨by rw [E3.out]; rfl, below_next B1.out D3.out⟩
    · have T1 : rtake K 0 0 4 = (0, 4, ⟨#[]⟩) := by
        unfold rtake
        rw [if_neg (by decide), if_neg (by decide), if_pos (by omega)]
      rw [T1] at S3
      rw [T1]
      have E3 := hide (E1.out.trans (show hgK K = (0, false) by unfold hgK; rw [if_neg (fun h => h4 h.1)]))
      dsimp only at S3 ⊢
      go_wp2_with (go_at_call 144; refine (rErr gr K _ 0 4 S3.out).mono ?_; rintro r W4 ⟨rfl, h9⟩; subst W4)
      go_ret2
      exact ⟨by rw [E3.out]; rfl, below_next B1.out D3.out⟩
theorem reward_any (n : Int) (h0 : -9223372036854775808 ≤ n) (h1 : n ≤ 9223372036854775807) (w : World) : Calls Tryz.prog 39 #[.int .i64 n] w fun e w' => e = .returned (.int .u64 (rwd n : Int)) ∧ w' = w := by
  by_cases hn : n < 0
  · have E : Hid (rwd n = 0) := by show _ = _; rw [rwd, if_pos hn]
    have q1 : decide (n < 0) = true := decide_eq_true hn
    go_enter Tryz.func39, Tryz.ntmps39
    go_wp2
    go_ret
    exact ⟨by rw [E.out]; rfl, rfl⟩
  · obtain ⟨h, rfl⟩ : ∃ h : Nat, n = (h : Int) := ⟨n.toNat, by omega⟩
    have E : Hid (rwd (h : Int) = 5000 / 2 ^ (h / 64)) := by show _ = _; rw [rwd, if_neg hn, Int.toNat_natCast]
    have q1 : decide ((h : Int) < 0) = false := decide_eq_false hn
    have q2 : ¬ (h : Int) < 0 := hn
    have q3 : (0 : Int) ≤ (h : Int) := by omega
    go_enter Tryz.func39, Tryz.ntmps39
    have e7 := shr_run h w
    generalize 5000 / 2 ^ (h / 64) = R at *
    go_wp2
    go_ret
    exact ⟨by rw [E.out]; rfl, rfl⟩
end
end Go.Proofs.YtofddbjnncgmlabGreatDoor
namespace Go.Proofs.YtofddbjnncgmlabGreatDoor
open Go.RowKit
open Go.Deep
set_option linter.unusedVariables false
section
set_option maxRecDepth 10000
set_option maxHeartbeats 4000000
theorem index_none (a : Option Addr) (c : Nat) (f : Value) (w : World) : Calls Tryz.prog 72 #[.slice a 0 c, f] w fun e w' => e = .returned (.int .i64 (-1)) ∧ w' = w := by
  go_enter Tryz.func72, Tryz.ntmps72
  go_upto_region 2 with fail
  go_loopw [8] (fun i wr => i = .int .i64 0 ∧ wr = w) (fun i _ => 0)
  case atStart => exact ⟨rfl, rfl⟩
  case round =>
    obtain ⟨rfl, rfl⟩ := hrel
    go_wp2
    go_ret
    exact ⟨rfl, rfl⟩
theorem contains_none (a : Option Addr) (c : Nat) (f : Value) (w : World) : Calls Tryz.prog 36 #[.slice a 0 c, f] w fun e w' => e = .returned (.bool false) ∧ w' = w := by
  have HI := hide (fun W => index_none a c f W)
  go_enter Tryz.func36, Tryz.ntmps36
  go_wp2_with (go_at_call 72; refine (HI.out _).mono ?_; rintro e W2 ⟨rfl, rfl⟩)
  go_ret
  exact ⟨rfl, rfl⟩
theorem checkV_one (h : Hd) (v : Value) (x : Tq) (w : World) (hL : LQ w v [x]) (hz : (bkB h [x]).length ≤ 8192) (hr : rtL (idsL [x]) = h.root) (hm : muL (idsL [x]) = false) (hb : x.m.base = true) (hck : x.m.chk = 0) (hK : Kg w) : Calls Tryz.prog 10 #[.agg (bkA h v)] w fun e w' => e = .returned (.int .i64 0) ∧ Below w.heap.size w w' := by
  obtain ⟨ao, cap, rfl⟩ := hL.l.form
  have hcap : 1 ≤ cap := by
    obtain ⟨ao', cap', e, hh, _⟩ := hL.l
    cases e
    simpa using hh
  obtain ⟨ga, oa, rfl⟩ := hL.l.base (by simp)
  have b1 := (Below.refl w.heap.size w).alloc (Nat.le_refl _) (.cells (bkA h (.slice (some ⟨ga, oa, none⟩) [x].length cap)) 30)
  have R1 := hide (heap_alloc_last w (.cells (bkA h (.slice (some ⟨ga, oa, none⟩) [x].length cap)) 30))
  have B1 := hide b1
  have HL := hide (hL.below b1)
  have KS := hide (fun W (b : Below w.heap.size w W) => hK.next b)
  have HO := hide (fun W l => long_any h (.slice (some ⟨ga, oa, none⟩) [x].length cap) [x] W l (by omega) (by simp))
  have HR : Hid (∀ W, LQ W (.slice (some ⟨ga, oa, none⟩) [x].length cap) [x] → Kg W → Calls Tryz.prog 29 #[.slice (some ⟨ga, oa, none⟩) [x].length cap] W fun e w' => e = .returned (.tuple #[.agg (hc h.root), .bool false]) ∧ Below W.heap.size W w') := fun W l q => by
    have := broot_any (.slice (some ⟨ga, oa, none⟩) [x].length cap) [x] W l (by simp) q
    rw [hr, hm] at this
    exact this
  have HF := hide (fun W l => fault_no h (.slice (some ⟨ga, oa, none⟩) [x].length cap) [x] W l (by intro y hy; rw [List.mem_singleton.1 hy]; exact hck) (by simp))
  have HB : Hid (∀ W, x.can W → Calls Tryz.prog 35 #[.agg x.arr] W fun e w' => e = .returned (.bool true) ∧ Below W.heap.size W w') := fun W c => by
    have := isCb_any x.m x.ai x.ci x.ao x.co W c.1 c.2
    rw [hb] at this
    exact this
  have HCo := hide contains_none
  have RH : Hid (∀ W : World, W.heap[w.heap.size]? = some (.cells (bkA h (.slice (some ⟨ga, oa, none⟩) [x].length cap)) 30 (0, 0)) → W.rangeAt w.heap.size 33 (cellsL h.root) ∧ W.cell? ⟨w.heap.size, 68, none⟩ = some (.slice (some ⟨ga, oa, none⟩) [x].length cap)) := fun W e => ⟨by have := h.rootR (bkA_head e); rwa [Nat.zero_add] at this, bkA_txs e⟩
  have HL2 := hide h.hr
  have EQ : Hid (∀ W, (Op.equalIn 10000 25 (.agg (hc h.root)) (.agg (hc h.root))).run Tryz.prog W = .ok true W) := fun W => by
    have := eqC_bytes h.root h.root 32 h.hr h.hr 25 Tryz.underlying25 9998 W
    rwa [beq_self_eq_true] at this
  have HG : Tryz.prog.eqGuardType Tryz.prog.depth 25 = false := by kernel_rfl
  have CN := hide (fun W (l : LQ W (.slice (some ⟨ga, oa, none⟩) [x].length cap) [x]) => And.intro (show W.rangeAt ga (oa + 0 * 4) x.cells from l.l.range 0 (by simp)) (l.t x (by simp)))
  have BZ : Hid ((bkA h (.slice (some ⟨ga, oa, none⟩) [x].length cap)).size = 69) := bkA_size _ _
  have ZL : ¬ ((bkB h [x]).length : Int) > 8192 := by omega
  clear b1 hL hz hr hm hb hck hK
  generalize h.root = HRT at *
  generalize (bkB h [x]).length = ZZ at *
  rw [show [x].length = 1 from rfl] at *
  generalize bkA h (.slice (some ⟨ga, oa, none⟩) 1 cap) = C at *
  have LX1 : Hid (∀ W, Below (w.alloc (.cells C 30)).heap.size (w.alloc (.cells C 30)) W → LQ W (.slice (some ⟨ga, oa, none⟩) 1 cap) [x] ∧ W.rangeAt w.heap.size 33 (cellsL HRT) ∧ W.cell? ⟨w.heap.size, 68, none⟩ = some (.slice (some ⟨ga, oa, none⟩) 1 cap) ∧ W.heap[w.heap.size]? = some (.cells C 30 (0, 0)) ∧ Kg W ∧ Below w.heap.size w W) := fun W b => by
    have r := (b.block _ (lt_heap R1.out)).trans R1.out
    have bb := below_next B1.out b
    exact ⟨HL.out.below b, (RH.out W r).1, (RH.out W r).2, r, KS.out W bb, bb⟩
  clear R1 B1 HL KS RH
  go_enter Tryz.func10, Tryz.ntmps10
  go_upto_region 1 with ((with_reducible refine at_list ?_); refine wpList_boxA rfl _ rfl C rfl ?_)
  generalize w.alloc (.cells C 30) = W0 at *
  have F0 := hide (LX1.out _ (Below.refl _ _))
  go_upto_region 3 with (first | (go_at_call 34; refine (HO.out _ F0.out.1).mono ?_; rintro e W1 ⟨rfl, be⟩; have D1 := hide be; clear be) | ((with_reducible refine at_list ?_); refine wpList_loadS ABk _ rfl w.heap.size rfl C BZ.out 30 F0.out.2.2.2.1 (by rfl) ?_))
  have F1 := hide (LX1.out _ D1.out)
  have c1 := F1.out.2.2.1
  clear F0 ZL HO
  go_upto_region 6 with (first | (go_at_call 29; refine (HR.out _ F1.out.1 F1.out.2.2.2.2.1).mono ?_; rintro e W2 ⟨rfl, be⟩; have D2 := hide (below_next D1.out be); clear be) | ((with_reducible refine at_list ?_); first | refine wpList_allocA A25 rfl rfl ?_ | refine wpList_store_newA A25 rfl _ _ rfl _ rfl (hc HRT) (by rw [hc_size, HL2.out]) (hc_one _) rfl rfl ?_))
  have D3 := hide (below_next D2.out ((Below.refl W2.heap.size W2).alloc (Nat.le_refl _) (.cells (hc HRT) 25)))
  have R3 := hide (heap_alloc_last W2 (.cells (hc HRT) 25))
  clear c1 F1 D1 D2 HR
  generalize W2.alloc (.cells (hc HRT) 25) = W3 at *
  generalize W2.heap.size = g3 at *
  have F3 := hide (LX1.out _ D3.out)
  have RZ : Hid ((hc HRT).size = 32) := by show _ = _; rw [hc_size, HL2.out]
  have c3 := F3.out.2.2.1
  go_upto_region 10 with ((with_reducible refine at_list ?_); first | refine wpList_loadS A25 _ rfl g3 rfl (hc HRT) RZ.out 25 R3.out (by rfl) ?_ | refine wpLoadH25 _ rfl w.heap.size 33 rfl HRT HL2.out F3.out.2.1 (by rfl) ?_ | refine wpList_neq 25 _ _ _ rfl (hc HRT) (hc HRT) rfl rfl (by rfl) HG _ EQ.out ?_)
  have XC : Hid (x.arr.size = 4) := rfl
  have CX := hide (CN.out _ F3.out.1)
  go_upto_region 12 with (first | (go_at_call 35; refine (HB.out _ CX.out.2).mono ?_; rintro e W4 ⟨rfl, be⟩; have D4 := hide (below_next D3.out be); clear be) | ((with_reducible refine at_list ?_); refine wpLoadT _ rfl ga oa rfl x (by have := CX.out.1; rwa [Nat.zero_mul, Nat.add_zero] at this) (by rfl) ?_))
  have F4 := hide (LX1.out _ D4.out)
  have c4 := F4.out.2.2.1
  clear c3 F3 D3 R3 HB CX
  go_upto_region 14 with (go_at_call 36; refine (HCo.out _ _ _ _).mono ?_; rintro e W5 ⟨rfl, h9⟩; subst W5)
  clear c4
  go_wp2_with (first | (go_at_call 33; refine (HF.out _ F4.out.1).mono ?_; rintro e W6 ⟨rfl, be⟩; have D6 := hide (below_next D4.out be); clear be) | ((with_reducible refine at_list ?_); refine wpList_loadS ABk _ rfl w.heap.size rfl C BZ.out 30 F4.out.2.2.2.1 (by rfl) ?_))
  all_goals
    go_ret
    exact ⟨rfl, (LX1.out _ D6.out).2.2.2.2.2⟩
end
end Go.Proofs.YtofddbjnncgmlabGreatDoor
namespace Go.Proofs.YtofddbjnncgmlabGreatDoor
open Go.RowKit
open Go.Deep
section
set_option maxRecDepth 10000
set_option maxHeartbeats 2000000
end
end Go.Proofs.YtofddbjnncgmlabGreatDoor
