/- block.IsCoinbase, block.Height, block.Reward and the document's Height and Reward: their contracts. -/
import Derived.Test.YtdkemnjkhclbkaaDoorX38
namespace Go.Proofs.YtdkemnjkhclbkaaDoor
open Go.RowKit
open Go.Deep
set_option linter.unusedVariables false
/-- The height that a key says. -/
def hgK (K : ByteArray) : Nat × Bool := if 4 ≤ K.size ∧ leN (K.extract 0 4).data.toList ≤ 2147483647 then (leN (K.extract 0 4).data.toList, true) else (0, false)
def hgI : List Ti → Nat × Bool
  | x :: _ => hgK x.key
  | [] => (0, false)
def Tm.hgt (m : Tm) : Nat × Bool := if m.base = true then hgI m.ins else (0, false)
theorem hgI_at (L : List Ti) (h : 0 < L.length) : hgI L = hgK L[0].key := by
  cases L with
  | nil => exact absurd h (by decide)
  | cons x r => rfl
theorem Tm.base_pos (m : Tm) (h : m.base = true) : 0 < m.ins.length := by
  rcases Nat.eq_zero_or_pos m.ins.length with h0 | h0
  · rw [m.base_no (by omega)] at h
    cases h
  · exact h0
/-- What a block of a height makes. -/
def rwd (n : Int) : Nat := if n < 0 then 0 else 5000 / 2 ^ (n.toNat / 64)
theorem half_step (i : Nat) : 5000 / 2 ^ i / 2 = 5000 / 2 ^ (i + 1) := by rw [Nat.div_div_eq_div_mul, Nat.pow_succ]
theorem half_zero (i j : Nat) (h : 5000 / 2 ^ i = 0) (hj : i ≤ j) : 5000 / 2 ^ j = 0 := by
  have := Nat.div_le_div_left (a := 5000) (Nat.pow_le_pow_right (show 0 < 2 by omega) hj) (Nat.pow_pos (show 0 < 2 by omega))
  rw [h] at this
  exact Nat.le_zero.1 this
theorem half_most (i : Nat) : 5000 / 2 ^ min i 64 = 5000 / 2 ^ i := by
  by_cases h : i ≤ 64
  · rw [Nat.min_eq_left h]
  · rw [Nat.min_eq_right (by omega), half_zero 13 i (by decide) (by omega)]
theorem shr_run (h : Nat) (w : World) : (Op.shift .shr .u64 5000 .i64 ((h : Int) / 64)).run Tryd.prog w = .ok (.int .u64 ((5000 / 2 ^ (h / 64) : Nat) : Int)) w := by
  have e : ((h : Int) / 64) = ((h / 64 : Nat) : Int) := by omega
  rw [e]
  generalize h / 64 = i
  have key : Op.shift .shr .u64 5000 .i64 (i : Int) = pure (.int .u64 ((5000 : Int).fdiv (2 ^ min i 64))) := by
    unfold Op.shift
    rw [if_neg (by omega)]
    rfl
  have val : (5000 : Int).fdiv (2 ^ min i 64) = ((5000 / 2 ^ i : Nat) : Int) := by
    rw [← half_most i]
    generalize min i 64 = j
    have hp : (0 : Int) ≤ 2 ^ j := Int.le_of_lt (Int.pow_pos (by omega))
    rw [Int.fdiv_eq_ediv_of_nonneg _ hp]
    simp
  rw [key, val]
  rfl
section
set_option maxRecDepth 10000
set_option maxHeartbeats 4000000
theorem isCb_any (m : Tm) (ai : Option Addr) (ci : Nat) (ao : Option Addr) (co : Nat) (w : World) (hl : LT w m ai ci ao co) (hf : m.fit) : Calls Tryd.prog 15 #[.agg (m.cells ai ci ao co)] w fun e w' => e = .returned (.bool m.base) ∧ Below w.heap.size w w' := by
  have b1 := (Below.refl w.heap.size w).alloc (Nat.le_refl _) (.cells (m.cells ai ci ao co) 47)
  have R1 := hide (heap_alloc_last w (.cells (m.cells ai ci ao co) 47))
  have B1 := hide b1
  have HB := hide (base_any m ai ci ao co _ (hl.below b1) hf)
  have CZ : Hid ((m.cells ai ci ao co).size = 4) := rfl
  clear b1 hl hf
  generalize m.cells ai ci ao co = C at *
  generalize m.base = V at *
  go_enter Tryd.func15, Tryd.ntmps15
  go_upto_region 1 with ((with_reducible refine at_list ?_); refine wpList_boxA rfl _ rfl C rfl ?_)
  generalize w.alloc (.cells C 47) = W0 at *
  go_wp2_with (first | (go_at_call 36; refine HB.out.mono ?_; rintro r W1 ⟨rfl, be⟩; have D1 := hide be; clear be) | ((with_reducible refine at_list ?_); refine wpList_loadS AT _ rfl w.heap.size rfl C CZ.out 47 R1.out (by rfl) ?_))
  go_ret
  exact ⟨rfl, below_next B1.out D1.out⟩
theorem height_any (m : Tm) (ai : Option Addr) (ci : Nat) (ao : Option Addr) (co : Nat) (w : World) (hl : LT w m ai ci ao co) (hf : m.fit) (hk : ∀ x ∈ m.ins, x.key.size ≤ maxLen) : Calls Tryd.prog 12 #[.agg (m.cells ai ci ao co)] w fun e w' => e = .returned (.tuple #[.int .i64 (m.hgt.1 : Int), .bool m.hgt.2]) ∧ Below w.heap.size w w' := by
  have b1 := (Below.refl w.heap.size w).alloc (Nat.le_refl _) (.cells (m.cells ai ci ao co) 47)
  have R1 := hide (heap_alloc_last w (.cells (m.cells ai ci ao co) 47))
  have B1 := hide b1
  have HB := hide (isCb_any m ai ci ao co _ (hl.below b1) hf)
  have HL := hide (hl.below b1)
  have CZ : Hid ((m.cells ai ci ao co).size = 4) := rfl
  have RC : Hid (∀ W : World, W.heap[w.heap.size]? = some (.cells (m.cells ai ci ao co) 47 (0, 0)) → W.cell? ⟨w.heap.size, 1, none⟩ = some (.slice ai m.ins.length ci)) := fun W e => by rw [cell_of_row _ _ _ _ _ _ e]; rfl
  have HK := hide hk
  clear b1 hl hf hk
  generalize m.cells ai ci ao co = C at *
  cases hb : m.base
  · have E1 : Hid (m.hgt = (0, false)) := by show _ = _; rw [Tm.hgt, hb, if_neg (by decide)]
    rw [hb] at HB
    clear hb
    go_enter Tryd.func12, Tryd.ntmps12
    go_upto_region 1 with ((with_reducible refine at_list ?_); refine wpList_boxA rfl _ rfl C rfl ?_)
    generalize w.alloc (.cells C 47) = W0 at *
    go_wp2_with (first | (go_at_call 15; refine HB.out.mono ?_; rintro r W1 ⟨rfl, be⟩; have D1 := hide be; clear be) | ((with_reducible refine at_list ?_); refine wpList_loadS AT _ rfl w.heap.size rfl C CZ.out 47 R1.out (by rfl) ?_))
    go_ret2
    exact ⟨by rw [E1.out]; rfl, below_next B1.out D1.out⟩
  · have hp := m.base_pos hb
    have E1 : Hid (m.hgt = hgK (m.ins[0]'hp).key) := by show _ = _; rw [Tm.hgt, if_pos hb, hgI_at _ hp]
    rw [hb] at HB
    obtain ⟨ga, oa, rfl⟩ := HL.out.i.base hp
    have RK : Hid (∀ W, Below (w.alloc (.cells C 47)).heap.size (w.alloc (.cells C 47)) W → W.cell? ⟨ga, oa + 33, none⟩ = some (.string (m.ins[0]'hp).key)) := fun W b => by
      have := Ti.keyR' _ ((HL.out.below b).i.range 0 hp)
      rwa [Nat.zero_mul, Nat.add_zero] at this
    have KM := hide (HK.out _ (List.getElem_mem hp))
    have h9 : (0 : Int) < (m.ins.length : Int) := by omega
    clear hb HK HL
    generalize (m.ins[0]'hp).key = K at *
    go_enter Tryd.func12, Tryd.ntmps12
    go_upto_region 1 with ((with_reducible refine at_list ?_); refine wpList_boxA rfl _ rfl C rfl ?_)
    generalize w.alloc (.cells C 47) = W0 at *
    go_upto_region 3 with (first | (go_at_call 15; refine HB.out.mono ?_; rintro r W1 ⟨rfl, be⟩; have D1 := hide be; clear be) | ((with_reducible refine at_list ?_); refine wpList_loadS AT _ rfl w.heap.size rfl C CZ.out 47 R1.out (by rfl) ?_))
    have c1 := RC.out _ ((D1.out.block _ (lt_heap R1.out)).trans R1.out)
    have c2 := RK.out _ D1.out
    go_upto_region 4 with (go_at_call 32; refine (newReader_any K _).mono ?_; rintro r W2 ⟨rfl, rfl⟩)
    have S0 : Hid (Rst (W1.alloc (.cells #[.string K, .int .i64 0, .int .i64 0] 116)) W1.heap.size K 0 0) := heap_alloc_last W1 _
    have D2 := hide (below_next D1.out ((Below.refl W1.heap.size W1).alloc (Nat.le_refl _) (.cells #[.string K, .int .i64 0, .int .i64 0] 116)))
    have GW := hide D1.out.size
    clear c1 c2 D1 HB RK RC
    generalize W1.alloc (.cells #[.string K, .int .i64 0, .int .i64 0] 116) = W2 at *
    generalize W1.heap.size = gr at *
    go_upto_region 5 with (go_at_call 33; refine (rU32 gr K _ 0 0 S0.out KM.out (by omega) (by omega)).mono ?_; rintro r W3 ⟨rfl, s3, f3⟩; have S3 := hide s3; have D3 := hide (D2.out.trans (f3.to_below GW.out D2.out.size)); clear s3 f3)
    by_cases h4 : 4 ≤ K.size
    · have T1 : rtake K 0 0 4 = (4, 0, K.extract 0 4) := by
        unfold rtake
        rw [if_neg (by decide), if_neg (by decide), if_neg (by omega)]
        rfl
      rw [T1] at S3
      have lt4 := leN_lt' (K.extract 0 4).data.toList 4 4294967296 (by simp; omega) rfl
      rw [T1]
      have HG : hgK K = if leN (K.extract 0 4).data.toList ≤ 2147483647 then (leN (K.extract 0 4).data.toList, true) else (0, false) := by
        unfold hgK
        by_cases hq : leN (K.extract 0 4).data.toList ≤ 2147483647
        · rw [if_pos ⟨h4, hq⟩, if_pos hq]
        · rw [if_neg (fun h => hq h.2), if_neg hq]
      have E2 := hide (E1.out.trans HG)
      clear HG T1 h4 E1
      dsimp only at S3 ⊢
      generalize leN (K.extract 0 4).data.toList = N at *
      by_cases hq : N ≤ 2147483647
      · have E3 := hide (E2.out.trans (if_pos hq))
        have q1 : decide ((N : Int) > 2147483647) = false := decide_eq_false (by omega)
        have q2 : ¬ (N : Int) > 2147483647 := by omega
        have e5 : IntKind.i64.wrap (N : Int) = (N : Int) := wrapI _ (by omega) (by omega)
        clear hq lt4
        go_wp2_with (go_at_call 34; refine (rErr gr K _ 4 0 S3.out).mono ?_; rintro r W4 ⟨rfl, h9⟩; subst W4)
        go_ret2
        exact ⟨by rw [E3.out]; rfl, below_next B1.out D3.out⟩
      · have E3 := hide (E2.out.trans (if_neg hq))
        have q1 : decide ((N : Int) > 2147483647) = true := decide_eq_true (by omega)
        have q2 : (N : Int) > 2147483647 := by omega
        clear hq lt4
        go_wp2_with (go_at_call 34; refine (rErr gr K _ 4 0 S3.out).mono ?_; rintro r W4 ⟨rfl, h9⟩; subst W4)
        go_ret2
        exact ⟨by rw [E3.out]; rfl, below_next B1.out D3.out⟩
    · have T1 : rtake K 0 0 4 = (0, 4, ⟨#[]⟩) := by
        unfold rtake
        rw [if_neg (by decide), if_neg (by decide), if_pos (by omega)]
      rw [T1] at S3
      rw [T1]
      have E3 := hide (E1.out.trans (show hgK K = (0, false) by unfold hgK; rw [if_neg (fun h => h4 h.1)]))
      dsimp only at S3 ⊢
      go_wp2_with (go_at_call 34; refine (rErr gr K _ 0 4 S3.out).mono ?_; rintro r W4 ⟨rfl, h9⟩; subst W4)
      go_ret2
      exact ⟨by rw [E3.out]; rfl, below_next B1.out D3.out⟩
theorem rheight_any (m : Tm) (ai : Option Addr) (ci : Nat) (ao : Option Addr) (co : Nat) (w : World) (hl : LR w m ai ci ao co) (hf : m.fit) : Calls Tryd.prog 13 #[.agg (m.cells ai ci ao co)] w fun e w' => e = .returned (.tuple #[.int .i64 (m.hgt.1 : Int), .bool m.hgt.2]) ∧ Below w.heap.size w w' := by
  have b1 := (Below.refl w.heap.size w).alloc (Nat.le_refl _) (.cells (m.cells ai ci ao co) 59)
  have R1 := hide (heap_alloc_last w (.cells (m.cells ai ci ao co) 59))
  have B1 := hide b1
  have HB := hide (rbase_any m ai ci ao co _ (hl.below b1) hf)
  have HL := hide (hl.below b1)
  have CZ : Hid ((m.cells ai ci ao co).size = 4) := rfl
  have RC : Hid (∀ W : World, W.heap[w.heap.size]? = some (.cells (m.cells ai ci ao co) 59 (0, 0)) → W.cell? ⟨w.heap.size, 1, none⟩ = some (.slice ai m.ins.length ci)) := fun W e => by rw [cell_of_row _ _ _ _ _ _ e]; rfl
  clear b1 hl hf
  generalize m.cells ai ci ao co = C at *
  cases hb : m.base
  · have E1 : Hid (m.hgt = (0, false)) := by show _ = _; rw [Tm.hgt, hb, if_neg (by decide)]
    rw [hb] at HB
    clear hb
    go_enter Tryd.func13, Tryd.ntmps13
    go_upto_region 1 with ((with_reducible refine at_list ?_); refine wpList_boxA rfl _ rfl C rfl ?_)
    generalize w.alloc (.cells C 59) = W0 at *
    go_wp2_with (first | (go_at_call 16; refine HB.out.mono ?_; rintro r W1 ⟨rfl, be⟩; have D1 := hide be; clear be) | ((with_reducible refine at_list ?_); refine wpList_loadS ATr _ rfl w.heap.size rfl C CZ.out 59 R1.out (by rfl) ?_))
    go_ret2
    exact ⟨by rw [E1.out]; rfl, below_next B1.out D1.out⟩
  · have hp := m.base_pos hb
    have E1 : Hid (m.hgt = hgK (m.ins[0]'hp).key) := by show _ = _; rw [Tm.hgt, if_pos hb, hgI_at _ hp]
    rw [hb] at HB
    obtain ⟨ga, oa, rfl⟩ := HL.out.i.base hp
    have RK : Hid (∀ W, Below (w.alloc (.cells C 59)).heap.size (w.alloc (.cells C 59)) W → W.cell? ⟨ga, oa + 33, none⟩ = some (.string (m.ins[0]'hp).key)) := fun W b => by
      have := Ti.keyR' _ ((HL.out.below b).i.range 0 hp)
      rwa [Nat.zero_mul, Nat.add_zero] at this
    have h9 : (0 : Int) < (m.ins.length : Int) := by omega
    clear hb HL
    generalize (m.ins[0]'hp).key = K at *
    go_enter Tryd.func13, Tryd.ntmps13
    go_upto_region 1 with ((with_reducible refine at_list ?_); refine wpList_boxA rfl _ rfl C rfl ?_)
    generalize w.alloc (.cells C 59) = W0 at *
    have RD : Hid (∀ W, Below W0.heap.size W0 W → W.cell? ⟨w.heap.size, 1, none⟩ = some (.slice (some ⟨ga, oa, none⟩) m.ins.length ci)) := fun W b => RC.out _ ((b.block _ (lt_heap R1.out)).trans R1.out)
    by_cases h4 : 4 ≤ K.size
    · have q4 : decide ((K.size : Int) < 4) = false := decide_eq_false (by omega)
      have q5 : ¬ (K.size : Int) < 4 := by omega
      go_upto_region 3 with (first | (go_at_call 16; refine HB.out.mono ?_; rintro r W1 ⟨rfl, be⟩; have D1 := hide be; clear be; have c1 := RD.out _ D1.out; have c2 := RK.out _ D1.out) | ((with_reducible refine at_list ?_); refine wpList_loadS ATr _ rfl w.heap.size rfl C CZ.out 59 R1.out (by rfl) ?_))
      have lt4 := leN_lt' (K.extract 0 4).data.toList 4 4294967296 (by simp; omega) rfl
      have HG : hgK K = if leN (K.extract 0 4).data.toList ≤ 2147483647 then (leN (K.extract 0 4).data.toList, true) else (0, false) := by
        unfold hgK
        by_cases hq : leN (K.extract 0 4).data.toList ≤ 2147483647
        · rw [if_pos ⟨h4, hq⟩, if_pos hq]
        · rw [if_neg (fun h => hq h.2), if_neg hq]
      have E2 := hide (E1.out.trans HG)
      have HT := hide (fun W => get_any (K.extract 0 4) W (by simp; omega))
      have q6 : (4 : Int) ≤ (K.size : Int) := by omega
      clear HG E1
      generalize leN (K.extract 0 4).data.toList = N at *
      by_cases hq : N ≤ 2147483647
      · have E3 := hide (E2.out.trans (if_pos hq))
        have q1 : decide ((N : Int) > 2147483647) = false := decide_eq_false (by omega)
        have q2 : ¬ (N : Int) > 2147483647 := by omega
        have e5 : IntKind.i64.wrap (N : Int) = (N : Int) := wrapI _ (by omega) (by omega)
        clear hq lt4
        go_wp2_with (go_at_call 35; refine (HT.out _).mono ?_; rintro r W4 ⟨rfl, h9⟩; subst W4)
        go_ret2
        exact ⟨by rw [E3.out]; rfl, below_next B1.out D1.out⟩
      · have E3 := hide (E2.out.trans (if_neg hq))
        have q1 : decide ((N : Int) > 2147483647) = true := decide_eq_true (by omega)
        have q2 : (N : Int) > 2147483647 := by omega
        clear hq lt4
        go_wp2_with (go_at_call 35; refine (HT.out _).mono ?_; rintro r W4 ⟨rfl, h9⟩; subst W4)
        go_ret2
        exact ⟨by rw [E3.out]; rfl, below_next B1.out D1.out⟩
    · have q4 : decide ((K.size : Int) < 4) = true := decide_eq_true (by omega)
      have q5 : (K.size : Int) < 4 := by omega
      have E3 := hide (E1.out.trans (show hgK K = (0, false) by unfold hgK; rw [if_neg (fun h => h4 h.1)]))
      clear h4
      go_wp2_with (first | (go_at_call 16; refine HB.out.mono ?_; rintro r W1 ⟨rfl, be⟩; have D1 := hide be; clear be; have c1 := RD.out _ D1.out; have c2 := RK.out _ D1.out) | ((with_reducible refine at_list ?_); refine wpList_loadS ATr _ rfl w.heap.size rfl C CZ.out 59 R1.out (by rfl) ?_))
      go_ret2
      exact ⟨by rw [E3.out]; rfl, below_next B1.out D1.out⟩
theorem reward_any (n : Int) (h0 : -9223372036854775808 ≤ n) (h1 : n ≤ 9223372036854775807) (w : World) : Calls Tryd.prog 17 #[.int .i64 n] w fun e w' => e = .returned (.int .u64 (rwd n : Int)) ∧ w' = w := by
  by_cases hn : n < 0
  · have E : Hid (rwd n = 0) := by show _ = _; rw [rwd, if_pos hn]
    have q1 : decide (n < 0) = true := decide_eq_true hn
    go_enter Tryd.func17, Tryd.ntmps17
    go_wp2
    go_ret
    exact ⟨by rw [E.out]; rfl, rfl⟩
  · obtain ⟨h, rfl⟩ : ∃ h : Nat, n = (h : Int) := ⟨n.toNat, by omega⟩
    have E : Hid (rwd (h : Int) = 5000 / 2 ^ (h / 64)) := by show _ = _; rw [rwd, if_neg hn, Int.toNat_natCast]
    have q1 : decide ((h : Int) < 0) = false := decide_eq_false hn
    have q2 : ¬ (h : Int) < 0 := hn
    have q3 : (0 : Int) ≤ (h : Int) := by omega
    go_enter Tryd.func17, Tryd.ntmps17
    have e7 := shr_run h w
    generalize 5000 / 2 ^ (h / 64) = R at *
    go_wp2
    go_ret
    exact ⟨by rw [E.out]; rfl, rfl⟩
theorem rreward_any (n : Int) (h0 : -9223372036854775808 ≤ n) (h1 : n ≤ 9223372036854775807) (w : World) : Calls Tryd.prog 18 #[.int .i64 n] w fun e w' => e = .returned (.int .u64 (rwd n : Int)) ∧ w' = w := by
  by_cases hn : n < 0
  · have E : Hid (rwd n = 0) := by show _ = _; rw [rwd, if_pos hn]
    have q1 : decide (n < 0) = true := decide_eq_true hn
    go_enter Tryd.func18, Tryd.ntmps18
    go_wp2
    go_ret
    exact ⟨by rw [E.out]; rfl, rfl⟩
  · obtain ⟨h, rfl⟩ : ∃ h : Nat, n = (h : Int) := ⟨n.toNat, by omega⟩
    have E : Hid (rwd (h : Int) = 5000 / 2 ^ (h / 64)) := by show _ = _; rw [rwd, if_neg hn, Int.toNat_natCast]
    have q1 : decide ((h : Int) < 0) = false := decide_eq_false hn
    have q2 : ¬ (h : Int) < 0 := hn
    have q3 : (0 : Int) ≤ (h : Int) := by omega
    have ew : wrap64 ((h : Int) / 64) = (h : Int) / 64 := by unfold wrap64; omega
    have e6 : ((h : Int) / 64) = ((h / 64 : Nat) : Int) := by omega
    have M := hide (show h / 64 ≤ 144115188075855871 by omega)
    have e8 := hide e6
    clear e6 h0 h1 hn
    go_enter Tryd.func18, Tryd.ntmps18
    go_upto_region 5 with fail
    go_loopw [3, 4] (fun v i wr => ∃ j : Nat, j ≤ h / 64 ∧ i = .int .i64 (j : Int) ∧ v = .int .u64 ((5000 / 2 ^ j : Nat) : Int) ∧ wr = w) (fun _ i _ => ((h / 64 : Nat) - intOf i).toNat)
    case atStart => exact ⟨0, Nat.zero_le _, rfl, rfl, rfl⟩
    case round =>
      obtain ⟨j, hj, rfl, rfl, rfl⟩ := hrel
      have hM := M.out
      by_cases hlt : j < h / 64
      · have g1 : (j : Int) < ((h : Int) / 64) := by have := e8.out; omega
        have g2 : decide ((j : Int) < ((h : Int) / 64)) = true := decide_eq_true g1
        by_cases hz : 5000 / 2 ^ j = 0
        · have Z := hide (half_zero j (h / 64) hz (by omega))
          rw [hz]
          have g3 : decide (((0 : Nat) : Int) > 0) = false := by decide
          clear hz hj hlt hM
          go_wp2
          go_ret
          exact ⟨by rw [E.out, Z.out]; rfl, rfl⟩
        · have HS := hide (half_step j)
          have hle : 5000 / 2 ^ j ≤ 5000 := Nat.div_le_self _ _
          generalize 5000 / 2 ^ j = V at *
          have g3 : decide ((V : Int) > 0) = true := decide_eq_true (by omega)
          have g4 : (V : Int) > 0 := by omega
          have g5 : 0 < V := by omega
          have e9 : IntKind.i64.wrap ((j : Int) + 1) = (j : Int) + 1 := wrapI _ (by omega) (by omega)
          have KK := hide (And.intro (show j + 1 ≤ h / 64 by omega) (show (((h / 64 : Nat) : Int) - ((j : Int) + 1)).toNat < (((h / 64 : Nat) : Int) - (j : Int)).toNat by omega))
          have VV := hide (show (V : Int) / 2 = ((V / 2 : Nat) : Int) by omega)
          clear hz hj hlt hM
          go_wp2
          exact ⟨⟨j + 1, KK.out.1, by go_num, by rw [VV.out, HS.out], trivial⟩, by simpa [intOf] using KK.out.2⟩
      · have g1 : ¬ (j : Int) < ((h : Int) / 64) := by have := e8.out; omega
        have g2 : decide ((j : Int) < ((h : Int) / 64)) = false := decide_eq_false g1
        obtain rfl : j = h / 64 := by omega
        go_wp2
        go_ret
        exact ⟨by rw [E.out]; rfl, rfl⟩
end
end Go.Proofs.YtdkemnjkhclbkaaDoor
