/- valid.firstFault: its contract, where there is none. The law's one: its contract. block.IsCoinbase, block.Height, block.Reward and the document's Height and Reward: their contracts. valid.Check of a block of one coinbase: its contract. Coins that are unspent: their cells; a set without coins; Tip: their contracts. The walk of BlockBases. -/
import Derived.Test.YtcoojkpimbddlaaGreatDoorP0
import Derived.Test.YtcoojkpimbddlaaGreatDoorX23
import Derived.Test.YtcoojkpimbddlaaGreatDoorX31
import Derived.Test.YtcoojkpimbddlaaGreatDoorX24
import Derived.Test.YtcoojkpimbddlaaGreatDoorX07
import Derived.Test.YtcoojkpimbddlaaGreatDoorX25
import Derived.WideKeyEntry
namespace Go.Proofs.YtcoojkpimbddlaaGreatDoor
open Go.RowKit
open Go.Deep
set_option linter.unusedVariables false
section
set_option maxRecDepth 10000
set_option maxHeartbeats 4000000
theorem fault_no (h : Hd) (v : Value) (L : List Tq) (w : World) (hL : LQ w v L) (hc : ∀ x ∈ L, x.m.chk = 0) (hn : L.length < 4398046511104) : Calls Tryz.prog 81 #[.agg (bkA h v)] w fun e w' => e = .returned (.tuple #[.int .i64 (-1), .int .i64 0]) ∧ Below w.heap.size w w' := by
  obtain ⟨ao, cap, rfl⟩ := hL.l.form
  have b1 := (Below.refl w.heap.size w).alloc (Nat.le_refl _) (.cells (bkA h (.slice ao L.length cap)) 62)
  have R1 := hide (heap_alloc_last w (.cells (bkA h (.slice ao L.length cap)) 62))
  have B1 := hide b1
  have HL := hide (hL.below b1)
  have HN := hide hn
  have HK := hide hc
  have c1 : (w.alloc (.cells (bkA h (.slice ao L.length cap)) 62)).cell? ⟨w.heap.size, 68, none⟩ = some (.slice ao L.length cap) := bkA_txs R1.out
  clear b1 hL hn hc
  generalize bkA h (.slice ao L.length cap) = C at *
  go_enter Tryz.func81, Tryz.ntmps81
  go_upto_region 1 with ((with_reducible refine at_list ?_); refine wpList_boxA rfl _ rfl C rfl ?_)
  generalize w.alloc (.cells C 62) = W0 at *
  go_upto_region 2 with fail
  clear c1
  go_loopw [10] (fun i wr => ∃ k : Nat, k ≤ L.length ∧ i = .int .i64 (k : Int) ∧ Hid (Below W0.heap.size W0 wr)) (fun i _ => (L.length - intOf i).toNat)
  case atStart => exact ⟨0, Nat.zero_le _, rfl, Below.refl _ _⟩
  case round =>
    obtain ⟨k, hk, rfl, J⟩ := hrel
    by_cases hlt : k < L.length
    · have h1 : (k : Int) < (L.length : Int) := by omega
      have h2 : (0 : Int) ≤ (k : Int) := by omega
      have hn := HN.out
      have e1 : IntKind.i64.wrap ((k : Int) + 1) = k + 1 := wrapI _ (by omega) (by omega)
      have KK := hide (And.intro (show k + 1 ≤ L.length by omega) (show ((L.length : Int) - ((k : Int) + 1)).toNat < ((L.length : Int) - (k : Int)).toNat by omega))
      obtain ⟨ga, oa, rfl⟩ := HL.out.l.base (by omega)
      have RG : Hid (wr.rangeAt ga (oa + k * 4) L[k].cells) := (HL.out.below J.out).l.range k hlt
      have CN := hide (fun W (b : Below W0.heap.size W0 W) => (HL.out.at k hlt).below b)
      have T0 := HK.out L[k] (List.getElem_mem hlt)
      generalize L[k] = x at *
      have HE : Hid (∀ W, x.can W → Calls Tryz.prog 147 #[.agg x.arr] W fun e w' => e = .returned (.int .i64 0) ∧ Below W.heap.size W w') := fun W c => by
        have := check_any x.m x.ai x.ci x.ao x.co W c.1 c.2
        rw [T0] at this
        exact this
      clear hk hlt hn T0
      go_upto_region 4 with ((with_reducible refine at_list ?_); first | refine wpLoadT _ rfl ga (oa + k * 4) rfl x RG.out (by rfl) ?_ | refine wpList_allocA AT rfl rfl ?_ | refine wpList_store_newA AT rfl _ _ rfl _ rfl x.arr rfl (x.m.one _ _ _ _) rfl rfl ?_)
      have J1 : Hid (Below W0.heap.size W0 (wr.alloc (.cells x.arr 152))) := J.out.alloc J.out.size _
      have RX := hide (heap_alloc_last wr (.cells x.arr 152))
      have XZ : Hid (x.arr.size = 4) := rfl
      clear J RG
      generalize wr.alloc (.cells x.arr 152) = W5 at *
      generalize wr.heap.size = g6 at *
      generalize x.arr = CX at *
      go_wp2_with (first | (go_at_call 147; refine (HE.out _ (CN.out _ J1.out)).mono ?_; rintro r W6 ⟨rfl, be⟩; have J2 := hide (below_next J1.out be); clear be) | ((with_reducible refine at_list ?_); refine wpList_loadS AT _ rfl g6 rfl CX XZ.out 152 RX.out (by rfl) ?_))
      exact ⟨⟨k + 1, KK.out.1, by go_num, J2⟩, by simpa [intOf] using KK.out.2⟩
    · have h1 : ¬ (k : Int) < (L.length : Int) := by omega
      clear hk hlt
      go_wp2
      go_ret2
      exact ⟨rfl, below_next B1.out J.out⟩
end
theorem Ti.keyR' {W : World} {g off : Nat} (x : Ti) (h : W.rangeAt g off x.cells) : W.cell? ⟨g, off + 33, none⟩ = some (.string x.key) := h 33 _ (by rw [← List.getElem?_toArray]; exact x.at33)
section
set_option maxRecDepth 10000
set_option maxHeartbeats 4000000
end
def hgK (K : ByteArray) : Nat × Bool := if 4 ≤ K.size ∧ leN (K.extract 0 4).data.toList ≤ 2147483647 then (leN (K.extract 0 4).data.toList, true) else (0, false)
def hgI : List Ti → Nat × Bool
  | x :: _ => hgK x.key
  | [] => (0, false)
def Tm.hgt (m : Tm) : Nat × Bool := if m.base = true then hgI m.ins else (0, false)
theorem hgI_at (L : List Ti) (h : 0 < L.length) : hgI L = hgK L[0].key := by
  cases L with
  | nil => exact absurd h (by decide)
  | cons x r => rfl
theorem Tm.base_pos (m : Tm) (h : m.base = true) : 0 < m.ins.length := by
  rcases Nat.eq_zero_or_pos m.ins.length with h0 | h0
  · rw [m.base_no (by omega)] at h
    cases h
  · exact h0
def rwd (n : Int) : Nat := if n < 0 then 0 else 5000 / 2 ^ (n.toNat / 64)
theorem half_zero (i j : Nat) (h : 5000 / 2 ^ i = 0) (hj : i ≤ j) : 5000 / 2 ^ j = 0 := by
  have := Nat.div_le_div_left (a := 5000) (Nat.pow_le_pow_right (show 0 < 2 by omega) hj) (Nat.pow_pos (show 0 < 2 by omega))
  rw [h] at this
  exact Nat.le_zero.1 this
theorem half_most (i : Nat) : 5000 / 2 ^ min i 64 = 5000 / 2 ^ i := by
  by_cases h : i ≤ 64
  · rw [Nat.min_eq_left h]
  · rw [Nat.min_eq_right (by omega), half_zero 13 i (by decide) (by omega)]
theorem shr_run (h : Nat) (w : World) : (Op.shift .shr .u64 5000 .i64 ((h : Int) / 64)).run Tryz.prog w = .ok (.int .u64 ((5000 / 2 ^ (h / 64) : Nat) : Int)) w := by
  have e : ((h : Int) / 64) = ((h / 64 : Nat) : Int) := by omega
  rw [e]
  generalize h / 64 = i
  have key : Op.shift .shr .u64 5000 .i64 (i : Int) = pure (.int .u64 ((5000 : Int).fdiv (2 ^ min i 64))) := by
    unfold Op.shift
    rw [if_neg (by omega)]
    rfl
  have val : (5000 : Int).fdiv (2 ^ min i 64) = ((5000 / 2 ^ i : Nat) : Int) := by
    rw [← half_most i]
    generalize min i 64 = j
    have hp : (0 : Int) ≤ 2 ^ j := Int.le_of_lt (Int.pow_pos (by omega))
    rw [Int.fdiv_eq_ediv_of_nonneg _ hp]
    simp
  rw [key, val]
  rfl
section
set_option maxRecDepth 10000
set_option maxHeartbeats 4000000
theorem isCb_any (m : Tm) (ai : Option Addr) (ci : Nat) (ao : Option Addr) (co : Nat) (w : World) (hl : LT w m ai ci ao co) (hf : m.fit) : Calls Tryz.prog 83 #[.agg (m.cells ai ci ao co)] w fun e w' => e = .returned (.bool m.base) ∧ Below w.heap.size w w' := by
  have b1 := (Below.refl w.heap.size w).alloc (Nat.le_refl _) (.cells (m.cells ai ci ao co) 152)
  have R1 := hide (heap_alloc_last w (.cells (m.cells ai ci ao co) 152))
  have B1 := hide b1
  have HB := hide (base_any m ai ci ao co _ (hl.below b1) hf)
  have CZ : Hid ((m.cells ai ci ao co).size = 4) := rfl
  clear b1 hl hf
  generalize m.cells ai ci ao co = C at *
  generalize m.base = V at *
  go_enter Tryz.func83, Tryz.ntmps83
  go_upto_region 1 with ((with_reducible refine at_list ?_); refine wpList_boxA rfl _ rfl C rfl ?_)
  generalize w.alloc (.cells C 152) = W0 at *
  go_wp2_with (first | (go_at_call 150; refine HB.out.mono ?_; rintro r W1 ⟨rfl, be⟩; have D1 := hide be; clear be) | ((with_reducible refine at_list ?_); refine wpList_loadS AT _ rfl w.heap.size rfl C CZ.out 152 R1.out (by rfl) ?_))
  go_ret
  exact ⟨rfl, below_next B1.out D1.out⟩
theorem height_any (m : Tm) (ai : Option Addr) (ci : Nat) (ao : Option Addr) (co : Nat) (w : World) (hl : LT w m ai ci ao co) (hf : m.fit) (hk : ∀ x ∈ m.ins, x.key.size ≤ maxLen) : Calls Tryz.prog 225 #[.agg (m.cells ai ci ao co)] w fun e w' => e = .returned (.tuple #[.int .i64 (m.hgt.1 : Int), .bool m.hgt.2]) ∧ Below w.heap.size w w' := by
  have b1 := (Below.refl w.heap.size w).alloc (Nat.le_refl _) (.cells (m.cells ai ci ao co) 152)
  have R1 := hide (heap_alloc_last w (.cells (m.cells ai ci ao co) 152))
  have B1 := hide b1
  have HB := hide (isCb_any m ai ci ao co _ (hl.below b1) hf)
  have HL := hide (hl.below b1)
  have CZ : Hid ((m.cells ai ci ao co).size = 4) := rfl
  have RC : Hid (∀ W : World, W.heap[w.heap.size]? = some (.cells (m.cells ai ci ao co) 152 (0, 0)) → W.cell? ⟨w.heap.size, 1, none⟩ = some (.slice ai m.ins.length ci)) := fun W e => by rw [cell_of_row _ _ _ _ _ _ e]; rfl
  have HK := hide hk
  clear b1 hl hf hk
  generalize m.cells ai ci ao co = C at *
  cases hb : m.base
  · have E1 : Hid (m.hgt = (0, false)) := by show _ = _; rw [Tm.hgt, hb, if_neg (by decide)]
    rw [hb] at HB
    clear hb
    go_enter Tryz.func225, Tryz.ntmps225
    go_upto_region 1 with ((with_reducible refine at_list ?_); refine wpList_boxA rfl _ rfl C rfl ?_)
    generalize w.alloc (.cells C 152) = W0 at *
    go_wp2_with (first | (go_at_call 83; refine HB.out.mono ?_; rintro r W1 ⟨rfl, be⟩; have D1 := hide be; clear be) | ((with_reducible refine at_list ?_); refine wpList_loadS AT _ rfl w.heap.size rfl C CZ.out 152 R1.out (by rfl) ?_))
    go_ret2
    exact ⟨by rw [E1.out]; rfl, below_next B1.out D1.out⟩
  · have hp := m.base_pos hb
    have E1 : Hid (m.hgt = hgK (m.ins[0]'hp).key) := by show _ = _; rw [Tm.hgt, if_pos hb, hgI_at _ hp]
    rw [hb] at HB
    obtain ⟨ga, oa, rfl⟩ := HL.out.i.base hp
    have RK : Hid (∀ W, Below (w.alloc (.cells C 152)).heap.size (w.alloc (.cells C 152)) W → W.cell? ⟨ga, oa + 33, none⟩ = some (.string (m.ins[0]'hp).key)) := fun W b => by
      have := Ti.keyR' _ ((HL.out.below b).i.range 0 hp)
      rwa [Nat.zero_mul, Nat.add_zero] at this
    have KM := hide (HK.out _ (List.getElem_mem hp))
    have h9 : (0 : Int) < (m.ins.length : Int) := by omega
    clear hb HK HL
    generalize (m.ins[0]'hp).key = K at *
    go_enter Tryz.func225, Tryz.ntmps225
    go_upto_region 1 with ((with_reducible refine at_list ?_); refine wpList_boxA rfl _ rfl C rfl ?_)
    generalize w.alloc (.cells C 152) = W0 at *
    go_upto_region 3 with (first | (go_at_call 83; refine HB.out.mono ?_; rintro r W1 ⟨rfl, be⟩; have D1 := hide be; clear be) | ((with_reducible refine at_list ?_); refine wpList_loadS AT _ rfl w.heap.size rfl C CZ.out 152 R1.out (by rfl) ?_))
    have c1 := RC.out _ ((D1.out.block _ (lt_heap R1.out)).trans R1.out)
    have c2 := RK.out _ D1.out
    go_upto_region 4 with (go_at_call 277; refine (newReader_any K _).mono ?_; rintro r W2 ⟨rfl, rfl⟩)
    have S0 : Hid (Rst (W1.alloc (.cells #[.string K, .int .i64 0, .int .i64 0] 418)) W1.heap.size K 0 0) := heap_alloc_last W1 _
    have D2 := hide (below_next D1.out ((Below.refl W1.heap.size W1).alloc (Nat.le_refl _) (.cells #[.string K, .int .i64 0, .int .i64 0] 418)))
    have GW := hide D1.out.size
    clear c1 c2 D1 HB RK RC
    generalize W1.alloc (.cells #[.string K, .int .i64 0, .int .i64 0] 418) = W2 at *
    generalize W1.heap.size = gr at *
    go_upto_region 5 with (go_at_call 278; refine (rU32 gr K _ 0 0 S0.out KM.out (by omega) (by omega)).mono ?_; rintro r W3 ⟨rfl, s3, f3⟩; have S3 := hide s3; have D3 := hide (D2.out.trans (f3.to_below GW.out D2.out.size)); clear s3 f3)
    by_cases h4 : 4 ≤ K.size
    · have T1 : rtake K 0 0 4 = (4, 0, K.extract 0 4) := by
        unfold rtake
        rw [if_neg (by decide), if_neg (by decide), if_neg (by omega)]
        rfl
      rw [T1] at S3
      have lt4 := leN_lt' (K.extract 0 4).data.toList 4 4294967296 (by simp; omega) rfl
      rw [T1]
      have HG : hgK K = if leN (K.extract 0 4).data.toList ≤ 2147483647 then (leN (K.extract 0 4).data.toList, true) else (0, false) := by
        unfold hgK
        by_cases hq : leN (K.extract 0 4).data.toList ≤ 2147483647
        · rw [if_pos ⟨h4, hq⟩, if_pos hq]
        · rw [if_neg (fun h => hq h.2), if_neg hq]
      have E2 := hide (E1.out.trans HG)
      clear HG T1 h4 E1
      dsimp only at S3 ⊢
      generalize leN (K.extract 0 4).data.toList = N at *
      by_cases hq : N ≤ 2147483647
      · have E3 := hide (E2.out.trans (if_pos hq))
        have q1 : decide ((N : Int) > 2147483647) = false := decide_eq_false (by omega)
        have q2 : ¬ (N : Int) > 2147483647 := by omega
        have e5 : IntKind.i64.wrap (N : Int) = (N : Int) := wrapI _ (by omega) (by omega)
        clear hq lt4
        go_wp2_with (go_at_call 279; refine (rErr gr K _ 4 0 S3.out).mono ?_; rintro r W4 ⟨rfl, h9⟩; subst W4)
        go_ret2
        exact ⟨by rw [E3.out]; rfl, below_next B1.out D3.out⟩
      · have E3 := hide (E2.out.trans (if_neg hq))
        have q1 : decide ((N : Int) > 2147483647) = true := decide_eq_true (by omega)
        have q2 : (N : Int) > 2147483647 := by omega
        clear hq lt4
        go_wp2_with (go_at_call 279; refine (rErr gr K _ 4 0 S3.out).mono ?_; rintro r W4 ⟨rfl, h9⟩; subst W4)
        go_ret2
        exact ⟨by rw [E3.out]; rfl, below_next B1.out D3.out⟩
    · have T1 : rtake K 0 0 4 = (0, 4, ⟨#[]⟩) := by
        unfold rtake
        rw [if_neg (by decide), if_neg (by decide), if_pos (by omega)]
      rw [T1] at S3
      rw [T1]
      have E3 := hide (E1.out.trans (show hgK K = (0, false) by unfold hgK; rw [if_neg (fun h => h4 h.1)]))
      dsimp only at S3 ⊢
      go_wp2_with (go_at_call 279; refine (rErr gr K _ 0 4 S3.out).mono ?_; rintro r W4 ⟨rfl, h9⟩; subst W4)
      go_ret2
      exact ⟨by rw [E3.out]; rfl, below_next B1.out D3.out⟩
theorem reward_any (n : Int) (h0 : -9223372036854775808 ≤ n) (h1 : n ≤ 9223372036854775807) (w : World) : Calls Tryz.prog 87 #[.int .i64 n] w fun e w' => e = .returned (.int .u64 (rwd n : Int)) ∧ w' = w := by
  by_cases hn : n < 0
  · have E : Hid (rwd n = 0) := by show _ = _; rw [rwd, if_pos hn]
    have q1 : decide (n < 0) = true := decide_eq_true hn
    go_enter Tryz.func87, Tryz.ntmps87
    go_wp2
    go_ret
    exact ⟨by rw [E.out]; rfl, rfl⟩
  · obtain ⟨h, rfl⟩ : ∃ h : Nat, n = (h : Int) := ⟨n.toNat, by omega⟩
    have E : Hid (rwd (h : Int) = 5000 / 2 ^ (h / 64)) := by show _ = _; rw [rwd, if_neg hn, Int.toNat_natCast]
    have q1 : decide ((h : Int) < 0) = false := decide_eq_false hn
    have q2 : ¬ (h : Int) < 0 := hn
    have q3 : (0 : Int) ≤ (h : Int) := by omega
    go_enter Tryz.func87, Tryz.ntmps87
    have e7 := shr_run h w
    generalize 5000 / 2 ^ (h / 64) = R at *
    go_wp2
    go_ret
    exact ⟨by rw [E.out]; rfl, rfl⟩
end
section
set_option maxRecDepth 10000
set_option maxHeartbeats 4000000
theorem index_none (a : Option Addr) (c : Nat) (f : Value) (w : World) : Calls Tryz.prog 151 #[.slice a 0 c, f] w fun e w' => e = .returned (.int .i64 (-1)) ∧ w' = w := by
  go_enter Tryz.func151, Tryz.ntmps151
  go_upto_region 2 with fail
  go_loopw [8] (fun i wr => i = .int .i64 0 ∧ wr = w) (fun i _ => 0)
  case atStart => exact ⟨rfl, rfl⟩
  case round =>
    obtain ⟨rfl, rfl⟩ := hrel
    go_wp2
    go_ret
    exact ⟨rfl, rfl⟩
theorem contains_none (a : Option Addr) (c : Nat) (f : Value) (w : World) : Calls Tryz.prog 84 #[.slice a 0 c, f] w fun e w' => e = .returned (.bool false) ∧ w' = w := by
  have HI := hide (fun W => index_none a c f W)
  go_enter Tryz.func84, Tryz.ntmps84
  go_wp2_with (go_at_call 151; refine (HI.out _).mono ?_; rintro e W2 ⟨rfl, rfl⟩)
  go_ret
  exact ⟨rfl, rfl⟩
theorem checkV_one (h : Hd) (v : Value) (x : Tq) (w : World) (hL : LQ w v [x]) (hz : (bkB h [x]).length ≤ 8192) (hr : rtL (idsL [x]) = h.root) (hm : muL (idsL [x]) = false) (hb : x.m.base = true) (hck : x.m.chk = 0) (hK : Kg w) : Calls Tryz.prog 23 #[.agg (bkA h v)] w fun e w' => e = .returned (.int .i64 0) ∧ Below w.heap.size w w' := by
  obtain ⟨ao, cap, rfl⟩ := hL.l.form
  have hcap : 1 ≤ cap := by
    obtain ⟨ao', cap', e, hh, _⟩ := hL.l
    cases e
    simpa using hh
  obtain ⟨ga, oa, rfl⟩ := hL.l.base (by simp)
  have b1 := (Below.refl w.heap.size w).alloc (Nat.le_refl _) (.cells (bkA h (.slice (some ⟨ga, oa, none⟩) [x].length cap)) 62)
  have R1 := hide (heap_alloc_last w (.cells (bkA h (.slice (some ⟨ga, oa, none⟩) [x].length cap)) 62))
  have B1 := hide b1
  have HL := hide (hL.below b1)
  have KS := hide (fun W (b : Below w.heap.size w W) => hK.next b)
  have HO := hide (fun W l => long_any h (.slice (some ⟨ga, oa, none⟩) [x].length cap) [x] W l (by omega) (by simp))
  have HR : Hid (∀ W, LQ W (.slice (some ⟨ga, oa, none⟩) [x].length cap) [x] → Kg W → Calls Tryz.prog 75 #[.slice (some ⟨ga, oa, none⟩) [x].length cap] W fun e w' => e = .returned (.tuple #[.agg (hc h.root), .bool false]) ∧ Below W.heap.size W w') := fun W l q => by
    have := broot_any (.slice (some ⟨ga, oa, none⟩) [x].length cap) [x] W l (by simp) q
    rw [hr, hm] at this
    exact this
  have HF := hide (fun W l => fault_no h (.slice (some ⟨ga, oa, none⟩) [x].length cap) [x] W l (by intro y hy; rw [List.mem_singleton.1 hy]; exact hck) (by simp))
  have HB : Hid (∀ W, x.can W → Calls Tryz.prog 83 #[.agg x.arr] W fun e w' => e = .returned (.bool true) ∧ Below W.heap.size W w') := fun W c => by
    have := isCb_any x.m x.ai x.ci x.ao x.co W c.1 c.2
    rw [hb] at this
    exact this
  have HCo := hide contains_none
  have RH : Hid (∀ W : World, W.heap[w.heap.size]? = some (.cells (bkA h (.slice (some ⟨ga, oa, none⟩) [x].length cap)) 62 (0, 0)) → W.rangeAt w.heap.size 33 (cellsL h.root) ∧ W.cell? ⟨w.heap.size, 68, none⟩ = some (.slice (some ⟨ga, oa, none⟩) [x].length cap)) := fun W e => ⟨by have := h.rootR (bkA_head e); rwa [Nat.zero_add] at this, bkA_txs e⟩
  have HL2 := hide h.hr
  have EQ : Hid (∀ W, (Op.equalIn 10000 46 (.agg (hc h.root)) (.agg (hc h.root))).run Tryz.prog W = .ok true W) := fun W => by
    have := eqC_bytes h.root h.root 32 h.hr h.hr 46 Tryz.underlying46 9998 W
    rwa [beq_self_eq_true] at this
  have HG : Tryz.prog.eqGuardType Tryz.prog.depth 46 = false := by kernel_rfl
  have CN := hide (fun W (l : LQ W (.slice (some ⟨ga, oa, none⟩) [x].length cap) [x]) => And.intro (show W.rangeAt ga (oa + 0 * 4) x.cells from l.l.range 0 (by simp)) (l.t x (by simp)))
  have BZ : Hid ((bkA h (.slice (some ⟨ga, oa, none⟩) [x].length cap)).size = 69) := bkA_size _ _
  have ZL : ¬ ((bkB h [x]).length : Int) > 8192 := by omega
  clear b1 hL hz hr hm hb hck hK
  generalize h.root = HRT at *
  generalize (bkB h [x]).length = ZZ at *
  rw [show [x].length = 1 from rfl] at *
  generalize bkA h (.slice (some ⟨ga, oa, none⟩) 1 cap) = C at *
  have LX1 : Hid (∀ W, Below (w.alloc (.cells C 62)).heap.size (w.alloc (.cells C 62)) W → LQ W (.slice (some ⟨ga, oa, none⟩) 1 cap) [x] ∧ W.rangeAt w.heap.size 33 (cellsL HRT) ∧ W.cell? ⟨w.heap.size, 68, none⟩ = some (.slice (some ⟨ga, oa, none⟩) 1 cap) ∧ W.heap[w.heap.size]? = some (.cells C 62 (0, 0)) ∧ Kg W ∧ Below w.heap.size w W) := fun W b => by
    have r := (b.block _ (lt_heap R1.out)).trans R1.out
    have bb := below_next B1.out b
    exact ⟨HL.out.below b, (RH.out W r).1, (RH.out W r).2, r, KS.out W bb, bb⟩
  clear R1 B1 HL KS RH
  go_enter Tryz.func23, Tryz.ntmps23
  go_upto_region 1 with ((with_reducible refine at_list ?_); refine wpList_boxA rfl _ rfl C rfl ?_)
  generalize w.alloc (.cells C 62) = W0 at *
  have F0 := hide (LX1.out _ (Below.refl _ _))
  go_upto_region 3 with (first | (go_at_call 82; refine (HO.out _ F0.out.1).mono ?_; rintro e W1 ⟨rfl, be⟩; have D1 := hide be; clear be) | ((with_reducible refine at_list ?_); refine wpList_loadS ABk _ rfl w.heap.size rfl C BZ.out 62 F0.out.2.2.2.1 (by rfl) ?_))
  have F1 := hide (LX1.out _ D1.out)
  have c1 := F1.out.2.2.1
  clear F0 ZL HO
  go_upto_region 6 with (first | (go_at_call 75; refine (HR.out _ F1.out.1 F1.out.2.2.2.2.1).mono ?_; rintro e W2 ⟨rfl, be⟩; have D2 := hide (below_next D1.out be); clear be) | ((with_reducible refine at_list ?_); first | refine wpList_allocA A25 rfl rfl ?_ | refine wpList_store_newA A25 rfl _ _ rfl _ rfl (hc HRT) (by rw [hc_size, HL2.out]) (hc_one _) rfl rfl ?_))
  have D3 := hide (below_next D2.out ((Below.refl W2.heap.size W2).alloc (Nat.le_refl _) (.cells (hc HRT) 46)))
  have R3 := hide (heap_alloc_last W2 (.cells (hc HRT) 46))
  clear c1 F1 D1 D2 HR
  generalize W2.alloc (.cells (hc HRT) 46) = W3 at *
  generalize W2.heap.size = g3 at *
  have F3 := hide (LX1.out _ D3.out)
  have RZ : Hid ((hc HRT).size = 32) := by show _ = _; rw [hc_size, HL2.out]
  have c3 := F3.out.2.2.1
  go_upto_region 10 with ((with_reducible refine at_list ?_); first | refine wpList_loadS A25 _ rfl g3 rfl (hc HRT) RZ.out 46 R3.out (by rfl) ?_ | refine wpLoadH25 _ rfl w.heap.size 33 rfl HRT HL2.out F3.out.2.1 (by rfl) ?_ | refine wpList_neq 46 _ _ _ rfl (hc HRT) (hc HRT) rfl rfl (by rfl) HG _ EQ.out ?_)
  have XC : Hid (x.arr.size = 4) := rfl
  have CX := hide (CN.out _ F3.out.1)
  go_upto_region 12 with (first | (go_at_call 83; refine (HB.out _ CX.out.2).mono ?_; rintro e W4 ⟨rfl, be⟩; have D4 := hide (below_next D3.out be); clear be) | ((with_reducible refine at_list ?_); refine wpLoadT _ rfl ga oa rfl x (by have := CX.out.1; rwa [Nat.zero_mul, Nat.add_zero] at this) (by rfl) ?_))
  have F4 := hide (LX1.out _ D4.out)
  have c4 := F4.out.2.2.1
  clear c3 F3 D3 R3 HB CX
  go_upto_region 14 with (go_at_call 84; refine (HCo.out _ _ _ _).mono ?_; rintro e W5 ⟨rfl, h9⟩; subst W5)
  clear c4
  go_wp2_with (first | (go_at_call 81; refine (HF.out _ F4.out.1).mono ?_; rintro e W6 ⟨rfl, be⟩; have D6 := hide (below_next D4.out be); clear be) | ((with_reducible refine at_list ?_); refine wpList_loadS ABk _ rfl w.heap.size rfl C BZ.out 62 F4.out.2.2.2.1 (by rfl) ?_))
  all_goals
    go_ret
    exact ⟨rfl, (LX1.out _ D6.out).2.2.2.2.2⟩
end
end Go.Proofs.YtcoojkpimbddlaaGreatDoor
namespace Go.Proofs.YtcoojkpimbddlaaGreatDoor
open Go.RowKit
open Go.Deep
open Go.Maps
set_option linter.unusedVariables false
set_option linter.unusedSimpArgs false
structure Cn where
  val : UInt64
  lock : ByteArray
  ht : Int
  cb : Bool
def Cn.cells (c : Cn) : List Value := [.int .u64 (c.val.toNat : Int), .string c.lock, .int .i64 c.ht, .bool c.cb]
def Cn.dat (c : Cn) : DataW Unit := .agg [.lit (.int .u64 (c.val.toNat : Int)), .lit (.string c.lock.data.toList), .lit (.int .i64 c.ht), .lit (.bool c.cb)]
def coE : Value → Option (DataW Unit × List MemPlace)
  | .agg ⟨[.int .u64 a, .string s, .int .i64 h, .bool b]⟩ => some (.agg [.lit (.int .u64 a), .lit (.string s.data.toList), .lit (.int .i64 h), .lit (.bool b)], [])
  | _ => none
theorem coE_mk (c : Cn) : coE (.agg c.cells.toArray) = some (c.dat, []) := rfl
theorem coE_inv {v : Value} {z : DataW Unit × List MemPlace} (h : coE v = some z) : ∃ (a : Int) (s : ByteArray) (hh : Int) (b : Bool), v = .agg #[.int .u64 a, .string s, .int .i64 hh, .bool b] ∧ z = (.agg [.lit (.int .u64 a), .lit (.string s.data.toList), .lit (.int .i64 hh), .lit (.bool b)], []) := by
  unfold coE at h
  split at h
  · exact ⟨_, _, _, _, rfl, (Option.some.inj h).symm⟩
  · cases h
theorem ba_inj {s t : ByteArray} (h : s.data.toList = t.data.toList) : s = t := by
  apply ByteArray.ext
  exact Array.toList_inj.1 h
theorem coE_eq {v : Value} {c : Cn} {ps : List MemPlace} (h : coE v = some (c.dat, ps)) : v = .agg c.cells.toArray := by
  obtain ⟨a, s, hh, b, rfl, e⟩ := coE_inv h
  have e1 := congrArg Prod.fst e
  simp only [Cn.dat, DataW.agg.injEq, List.cons.injEq, DataW.lit.injEq, Lit.int.injEq, Lit.string.injEq, Lit.bool.injEq, and_true, true_and] at e1
  obtain ⟨q1, q2, q3, q4⟩ := e1
  obtain rfl := ba_inj q2
  rw [Cn.cells, q1, q3, q4]
def coL (tip : List UInt8) (h : Int) (bm bc : Nat) : List Value := cellsL tip ++ [.int .i64 h, .map (some bm), .map (some bc)]
theorem coL_len (tip : List UInt8) (ht : tip.length = 32) (h : Int) (bm bc : Nat) : (coL tip h bm bc).length = 35 := by rw [coL, List.length_append, cellsL_len, ht]; rfl
theorem coL_tip {W : World} {g : Nat} {tip : List UInt8} {h : Int} {bm bc : Nat} (r : W.heap[g]? = some (.cells (coL tip h bm bc).toArray 178 (0, 0))) : W.rangeAt g 0 (cellsL tip) := fun j v hv => by
  have := rowAt _ r j v (by rw [coL, List.getElem?_append_left (List.getElem?_eq_some_iff.1 hv).1]; exact hv)
  exact this
theorem coL_more {W : World} {g : Nat} {tip : List UInt8} (ht : tip.length = 32) {h : Int} {bm bc : Nat} (r : W.heap[g]? = some (.cells (coL tip h bm bc).toArray 178 (0, 0))) : W.cell? ⟨g, 32, none⟩ = some (.int .i64 h) ∧ W.cell? ⟨g, 33, none⟩ = some (.map (some bm)) ∧ W.cell? ⟨g, 34, none⟩ = some (.map (some bc)) := by
  have q : ∀ (j : Nat) (v : Value), ([.int .i64 h, .map (some bm), .map (some bc)] : List Value)[j]? = some v → W.cell? ⟨g, 32 + j, none⟩ = some v := fun j v hv => by
    have := rowAt _ r (32 + j) v (by rw [coL, List.getElem?_append_right (by rw [cellsL_len, ht]; omega), cellsL_len, ht, show 32 + j - 32 = j by omega]; exact hv)
    rwa [Nat.zero_add] at this
  exact ⟨q 0 _ rfl, q 1 _ rfl, q 2 _ rfl⟩
structure Cst (B W : World) (gc bm bc n m : Nat) (tip : List UInt8) (h : Int) (D E : DataW Unit) : Prop where
  row : W.heap[gc]? = some (.cells (coL tip h bm bc).toArray 178 (0, 0))
  mp : W.ownsMap Tryz.prog 160 coE bm n D
  ct : OmI W bc m E
  bel : Below B.heap.size B W
  bg : B.heap.size ≤ gc
  b1 : B.heap.size ≤ bm
  b2 : B.heap.size ≤ bc
  n1 : gc ≠ bm
  n2 : gc ≠ bc
  n3 : bm ≠ bc
  ht : tip.length = 32
section
variable {A B W W' : World} {gc bm bc n m : Nat} {tip : List UInt8} {h : Int} {D E : DataW Unit}
theorem own_block {b n : Nat} {k : TypeId} {R : Value → Option (DataW Unit × List MemPlace)} {D : DataW Unit} (o : W.ownsMap Tryz.prog k R b n D) (e : W'.heap[b]? = W.heap[b]?) : W'.ownsMap Tryz.prog k R b n D := by
  obtain ⟨es, clock, hb, F, hs, rfl⟩ := o
  exact ⟨es, clock, e.trans hb, F, hs, rfl⟩
theorem Cst.next (c : Cst B W gc bm bc n m tip h D E) (b : Below W.heap.size W W') : Cst B W' gc bm bc n m tip h D E :=
  ⟨(b.block _ (lt_heap c.row)).trans c.row, own_block c.mp (b.block _ c.mp.lt), c.ct.of_block (b.block _ c.ct.lt), below_next c.bel b, c.bg, c.b1, c.b2, c.n1, c.n2, c.n3, c.ht⟩
theorem Cst.base (c : Cst B W gc bm bc n m tip h D E) (b : Below A.heap.size A B) : Cst A W gc bm bc n m tip h D E :=
  ⟨c.row, c.mp, c.ct, below_next b c.bel, Nat.le_trans b.size c.bg, Nat.le_trans b.size c.b1, Nat.le_trans b.size c.b2, c.n1, c.n2, c.n3, c.ht⟩
end
section
variable {B W : World} {gc bm bc n m : Nat} {tip : List UInt8} {h : Int} {D E : DataW Unit}
theorem Cst.setRow (c : Cst B W gc bm bc n m tip h D E) {g : Nat} (n1 : g ≠ gc) (n2 : g ≠ bm) (n3 : g ≠ bc) (hB : B.heap.size ≤ g) (x : Array Value) : Cst B (W.setRow g x) gc bm bc n m tip h D E :=
  ⟨(setRow_other _ _ _ _ (by omega)).trans c.row, own_block c.mp (setRow_other _ _ _ _ (by omega)), c.ct.of_block (setRow_other _ _ _ _ (by omega)), below_setRow c.bel hB _, c.bg, c.b1, c.b2, c.n1, c.n2, c.n3, c.ht⟩
end
theorem bldCo (tip : List UInt8) (ht : tip.length = 32) (h : Int) (bm bc : Nat) (W : World) : (Instr.build 178 #[(0, .agg (hc tip)), (1, .int .i64 h), (2, .map (some bm)), (3, .map (some bc))]).run Tryz.prog W = .ok (.agg (coL tip h bm bc).toArray) W := by
  obtain ⟨_, _, _, _, _, _, _, _, _, _, _, _, _, _, _, _, _, _, _, _, _, _, _, _, _, _, _, _, _, _, _, _, rfl⟩ := id32' tip ht
  kernel_rfl
theorem fieldBk16 (h : Hd) (v : Value) (W : World) : (Instr.field 62 (.agg (bkA h v)) 0).run Tryz.prog W = .ok (.agg h.cells.toArray) W := by
  obtain ⟨ve, p, r, t, b, o, hp, hr⟩ := h
  obtain ⟨_, _, _, _, _, _, _, _, _, _, _, _, _, _, _, _, _, _, _, _, _, _, _, _, _, _, _, _, _, _, _, _, rfl⟩ := id32' p hp
  obtain ⟨_, _, _, _, _, _, _, _, _, _, _, _, _, _, _, _, _, _, _, _, _, _, _, _, _, _, _, _, _, _, _, _, rfl⟩ := id32' r hr
  kernel_rfl
theorem wpFieldBk16 {w : World} {ops : Array Oper} {rest : List Oper} {o : Oper} {a : Act} {Q : Exit → Act → World → Prop} (x : Operand) (ho : o.op = .field 62 x 0) (h0 : Hd) (v : Value) (hx : a.eval x = .agg (bkA h0 v)) (hw : Region.wanted o (yielded ops a.tmps) = true)
    (h : wpList Tryz.prog ops Q rest (a.put o.dst (.agg h0.cells.toArray)) w) : wpList Tryz.prog ops Q (o :: rest) a w := by
  refine wpList_step fun K hK => ?_
  rw [if_pos hw]
  unfold Oper.wp execOp
  simp only [ho, hx, Sem.run_bind, fieldBk16, Result.andThen_ok, Sem.run_pure]
  exact hK _ _ h
section
set_option maxRecDepth 10000
set_option maxHeartbeats 4000000
theorem noCoins_any (tip : List UInt8) (ht : tip.length = 32) (h : Int) (w : World) : Calls Tryz.prog 73 #[.agg (hc tip), .int .i64 h] w fun e w' => ∃ gc bm bc, e = .returned (.pointer (some ⟨gc, 0, none⟩)) ∧ Cst w w' gc bm bc 0 0 tip h (.map []) (.map []) := by
  have CZ := hide (show (hc tip).size = 32 by rw [hc_size, ht])
  have R0 := hide (heap_alloc_last w (.cells (hc tip) 46))
  have B0 := hide ((Below.refl w.heap.size w).alloc (Nat.le_refl _) (.cells (hc tip) 46))
  have HB := hide (fun bm bc W => bldCo tip ht h bm bc W)
  have HT := hide ht
  clear ht
  have mk := make_none 176 160 189 Tryz.underlying176
  have mk2 := make_none 118 46 3 Tryz.underlying118
  have CD : ∀ bm bc, ∃ L, Hid ((coL tip h bm bc) = L) := fun bm bc => ⟨_, rfl⟩
  generalize hc tip = C at *
  go_enter Tryz.func73, Tryz.ntmps73
  go_upto_region 1 with ((with_reducible refine at_list ?_); refine wpList_boxA rfl _ rfl C rfl ?_)
  generalize w.alloc (.cells C 46) = W0 at *
  have O1 := hide (World.ownsMap_made (H := Unit) W0 Tryz.prog 160 coE)
  have O2 := hide (World.ownsMap_made (H := Unit) (W0.alloc (.map #[] 0)) Tryz.prog 46 (plainElem Tryz.prog 3))
  have s1 : (W0.alloc (.map #[] 0)).heap.size = W0.heap.size + 1 := by simp
  have B1 := hide ((Below.refl W0.heap.size W0).alloc (Nat.le_refl _) (.map #[] 0))
  have B2 := hide (B1.out.alloc (by rw [s1]; omega) (.map #[] 0))
  rw [s1] at O2
  go_wp2_with ((with_reducible refine at_list ?_); first | refine wpList_loadS A25 _ rfl w.heap.size rfl C CZ.out 46 R0.out (by rfl) ?_ | refine wpList_bldX rfl _ rfl #[(0, .agg C), (1, .int .i64 h), (2, .map (some W0.heap.size)), (3, .map (some (W0.heap.size + 1)))] (coL tip h W0.heap.size (W0.heap.size + 1)).toArray (by simp only [List.map_toArray, List.map_cons, List.map_nil]; rfl) (HB.out _ _) ?_ | refine wpList_boxA rfl _ rfl (coL tip h W0.heap.size (W0.heap.size + 1)).toArray rfl ?_)
  have s2 : ((W0.alloc (.map #[] 0)).alloc (.map #[] 0)).heap.size = W0.heap.size + 1 + 1 := by simp
  have O1b := hide (own_block O1.out (Below.heap_alloc (W0.alloc (.map #[] 0)) (.map #[] 0) _ O1.out.lt))
  clear O1 B1 s1 mk mk2 HB CD
  have hw0 := B0.out.size
  have hw1 := lt_heap R0.out
  generalize (W0.alloc (.map #[] 0)).alloc (.map #[] 0) = W2 at *
  go_ret
  refine ⟨_, _, _, rfl, ⟨by rw [← s2]; exact heap_alloc_last W2 _, own_block O1b.out (Below.heap_alloc _ _ _ O1b.out.lt), O2.out.alloc _, (below_next B0.out B2.out).alloc (by omega) _, by omega, by omega, by omega, by omega, by omega, by omega, HT.out⟩⟩
theorem tip_any {B w : World} {gc bm bc n m : Nat} {tip : List UInt8} {h : Int} {D E : DataW Unit} (c : Cst B w gc bm bc n m tip h D E) : Calls Tryz.prog 25 #[.pointer (some ⟨gc, 0, none⟩)] w fun e w' => e = .returned (.tuple #[.agg (hc tip), .int .i64 h]) ∧ Below w.heap.size w w' := by
  have ZZ := hide (And.intro (show (hc zeros).size = 32 by rw [hc_size, zeros_len]) (hc_one zeros))
  have CZ := hide (And.intro (show (hc tip).size = 32 by rw [hc_size, c.ht]) (hc_one tip))
  have b1 := (Below.refl w.heap.size w).alloc (Nat.le_refl _) (.cells (hc zeros) 46)
  have C1 := hide (c.next b1)
  have R1 := hide (heap_alloc_last w (.cells (hc zeros) 46))
  have B1 := hide b1
  have HT := hide c.ht
  have HX : Hid (w.heap.size ≠ gc ∧ w.heap.size ≠ bm ∧ w.heap.size ≠ bc ∧ B.heap.size ≤ w.heap.size) := by
    have l1 := lt_heap c.row
    have l2 := c.mp.lt
    have l3 := c.ct.lt
    exact ⟨by omega, by omega, by omega, c.bel.size⟩
  clear b1 c
  go_enter Tryz.func25, Tryz.ntmps25
  go_upto_region 3 with ((with_reducible refine at_list ?_); refine wpList_allocA A25 rfl rfl ?_)
  have DV := hide (Below.refl (w.alloc (.cells (hc zeros) 46)).heap.size (w.alloc (.cells (hc zeros) 46))).drew
  have R2 := hide ((DV.out.block _ (lt_heap R1.out)).trans R1.out)
  have C2 := hide (C1.out.next DV.out)
  have B2 := hide (below_next B1.out DV.out)
  refine wp_region_held_drew (S := fun W => Cst B W gc bm bc n m tip h D E) (by kernel_rfl) C2.out (fun hH => ?_)
  generalize (w.alloc (.cells (hc zeros) 46)).drew = V1 at *
  have GE := hide (show w.heap.size ≠ gc ∧ w.heap.size ≠ bm ∧ w.heap.size ≠ bc ∧ B.heap.size ≤ w.heap.size from HX.out)
  refine wt (i := 0) (v := (.pointer (some ⟨gc, 0, none⟩))) rfl (yl_move (by rfl) _ (by rfl) _ (by rfl)) hH ?_
  change wpAnyH _ _ _ _ _ _ _ (Act.put _ (some 7) _) _
  simp only [Act.put, s0, s1, s2]
  refine wt (i := 1) (v := (.pointer (some ⟨gc, 0, none⟩))) rfl (.inl ⟨by rfl, fun W _ => by go_simp⟩) hH ?_
  change wpAnyH _ _ _ _ _ _ _ (Act.put _ (some 8) _) _
  simp only [Act.put, s0, s1, s2]
  refine wt (i := 2) (v := (.pointer (some ⟨gc, 0, none⟩))) rfl (.inl ⟨by rfl, fun W _ => by go_simp⟩) hH ?_
  change wpAnyH _ _ _ _ _ _ _ (Act.put _ (some 9) _) _
  simp only [Act.put, s0, s1, s2]
  refine wt (i := 3) (v := (.agg (hc tip))) rfl (yl_load (by rfl) _ (by rfl) _ (hc tip) (by rfl) (fun W hS => ld_hash tip HT.out (coL_tip hS.row))) hH ?_
  change wpAnyH _ _ _ _ _ _ _ (Act.put _ (some 10) _) _
  simp only [Act.put, s0, s1, s2]
  refine wt (i := 4) (v := (.pointer (some ⟨gc, 0, none⟩))) rfl (yl_move (by rfl) _ (by rfl) _ (by rfl)) hH ?_
  change wpAnyH _ _ _ _ _ _ _ (Act.put _ (some 11) _) _
  simp only [Act.put, s0, s1, s2]
  refine wt (i := 5) (v := (.pointer (some ⟨gc, 0, none⟩))) rfl (.inl ⟨by rfl, fun W _ => by go_simp⟩) hH ?_
  change wpAnyH _ _ _ _ _ _ _ (Act.put _ (some 12) _) _
  simp only [Act.put, s0, s1, s2]
  refine wt (i := 6) (v := (.pointer (some ⟨gc, 32, none⟩))) rfl (.inl ⟨by rfl, fun W _ => by go_simp⟩) hH ?_
  change wpAnyH _ _ _ _ _ _ _ (Act.put _ (some 13) _) _
  simp only [Act.put, s0, s1, s2]
  refine wt (i := 7) (v := (.int .i64 h)) rfl (.inl ⟨by rfl, fun W hS => by have c4 := (coL_more HT.out hS.row).1; go_simp⟩) hH ?_
  change wpAnyH _ _ _ _ _ _ _ (Act.put _ (some 14) _) _
  simp only [Act.put, s0, s1, s2]
  refine wpAnyH_ready (rs := [8]) (by kernel_rfl) (by simp) (AllReadyH.cons rfl (fun K1 hK1 => ?_) AllReadyH.nil)
  refine stepStoreA A25 (by rfl) _ _ (by rfl) w.heap.size (hc tip) CZ.out.1 CZ.out.2 (by rfl) (by rfl) (hc zeros) ZZ.out.1 _ R2.out ?_
  refine hK1.out _ _ (C2.out.setRow GE.out.1 GE.out.2.1 GE.out.2.2.1 GE.out.2.2.2 _) (fun hH => ?_)
  clear hK1
  change wpAnyH _ _ _ _ _ _ _ (Act.put _ none _) _
  simp only [Act.put]
  refine wt (i := 9) (v := (.int .i64 h)) rfl (.inl ⟨by rfl, fun W _ => by go_simp⟩) hH ?_
  change wpAnyH _ _ _ _ _ _ _ (Act.put _ (some 3) _) _
  simp only [Act.put, s0, s1, s2]
  refine wpAnyH_done (by kernel_rfl) ?_ _
  go_wp2
  exact bodyPost_ret (v := .tuple #[.agg (hc tip), .int .i64 h]) (resA2K A25 Tryz.results25 _ _ w.heap.size 46 _ CZ.out.1 rfl (setRow_heap _ _ _ _ _ _ R2.out) _ rfl) rfl ⟨rfl, below_setRow B2.out (Nat.le_refl _) _⟩
end
end Go.Proofs.YtcoojkpimbddlaaGreatDoor
namespace Go.Proofs.YtcoojkpimbddlaaGreatDoor
open Go.RowKit
open Go.Deep
set_option linter.unusedVariables false
theorem leN_lowB (k n : Nat) (h : n < 256 ^ k) : leN (lowL n k) = n := by
  induction k generalizing n with
  | zero => simp [lowL, leN] at *; omega
  | succ k ih =>
    rw [lowL, leN, ih (n / 256) (by rw [Nat.pow_succ] at h; omega), UInt8.toNat_ofNat']
    omega
theorem cut4 (n : Nat) (x : ByteArray) : ((txt (lowL n 4 ++ x.data.toList)).extract 0 4).data.toList = lowL n 4 := by
  have : ((txt (lowL n 4 ++ x.data.toList)).extract 0 4).data.toList = ((lowL n 4 ++ x.data.toList).drop 0).take 4 := by
    simp [ByteArray.data_extract, txt, List.extract_eq_take_drop]
  rw [this, List.drop_zero, List.take_append_of_le_length (by rw [lowL_len]; omega), List.take_of_length_le (by rw [lowL_len]; omega)]
theorem cbT_base (n : Nat) (x : ByteArray) (L : List Tu) : (cbT n x L).base = true := by
  rw [Tm.base_one _ rfl]
  exact decide_eq_true rfl
theorem cbT_hgt (n : Nat) (hn : n ≤ 2147483647) (x : ByteArray) (L : List Tu) : (cbT n x L).hgt = (n, true) := by
  have e1 : hgI (cbT n x L).ins = hgK (txt (lowL n 4 ++ x.data.toList)) := rfl
  rw [Tm.hgt, if_pos (cbT_base n x L), e1, hgK, cut4, leN_lowB 4 n (by omega), if_pos ⟨by rw [txt_sz, List.length_append, lowL_len]; omega, hn⟩]
section
set_option maxRecDepth 10000
set_option maxHeartbeats 8000000
end
end Go.Proofs.YtcoojkpimbddlaaGreatDoor
