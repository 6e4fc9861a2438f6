/- The contracts of target.share and target.Work. The contract of target.Compact; awake. The contract of wide.Of. -/
import Derived.Test.YthhojpplbhnnfaaGreatDoorX22
import Derived.Test.YthhojpplbhnnfaaGreatDoorX23
import Derived.Test.YthhojpplbhnnfaaGreatDoorX19
import Derived.Test.YthhojpplbhnnfaaGreatDoorX20
namespace Go.Proofs.YthhojpplbhnnfaaGreatDoor
open Go.RowKit
open Go.Deep
attribute [local go_sem ↓] ldW_eq svW_eq
section
set_option maxRecDepth 10000
set_option maxHeartbeats 4000000
theorem share_any (T : Nat) (hT : T ≤ Lm) (w : World) : Calls Tryz.prog 99 #[.agg (wn T)] w fun e w' => e = .returned (.agg (wn ((M - 1 - T) / (T + 1) + 1))) ∧ Below w.heap.size w w' := by
  have hL : Lm + 1 < M := by decide +kernel
  have HF : Hid (∀ W, Calls Tryz.prog 144 #[.int .u64 1] W fun e w' => e = .returned (.agg (wn 1)) ∧ Below W.heap.size W w') := fun W => from_any 1 (by decide) W
  have HA := hide fun W => wadd_any T 1 (by omega) (by decide) W
  have HN := hide fun W => not_any T (by omega) W
  have HD := hide fun W => div_any (M - 1 - T) (T + 1) (by omega) (by omega) (by omega) W
  have hQ : (M - 1 - T) / (T + 1) < M := Nat.lt_of_le_of_lt (Nat.div_le_self _ _) (by omega)
  have HA2 := hide fun W => wadd_any ((M - 1 - T) / (T + 1)) 1 hQ (by decide) W
  have J0 : Hid (Rs w ((w.alloc (.cells (wn T) 51)).alloc (.cells (wn 0) 51)) [(w.heap.size + 1, 51, 0), (w.heap.size, 51, T)]) := Rs.start2 w 51 T 0
  generalize decide (M ≤ T + 1) = o1 at *
  generalize decide (M ≤ (M - 1 - T) / (T + 1) + 1) = o2 at *
  generalize (M - 1 - T) / (T + 1) + 1 = V at *
  generalize (M - 1 - T) / (T + 1) = Q at *
  generalize (M - 1 - T) % (T + 1) = R at *
  generalize M - 1 - T = U at *
  generalize T + 1 = D at *
  clear hT hL hQ
  go_enter Tryz.func99, Tryz.ntmps99
  go_upto_region 1 with (first | refine wpList_boxA rfl _ rfl (wn T) rfl ?_ | refine wpList_allocA AW rfl rfl ?_)
  generalize (w.alloc (.cells (wn T) 51)).alloc (.cells (wn 0) 51) = W0 at *
  try simp only [Act.put, List.setIfInBounds_toArray, List.set_cons_succ, List.set_cons_zero, hsz]
  have rT := hide (J0.out.at (g := w.heap.size) (t := 51) (n := T) (by simp))
  go_cut [3, 4] from 10 to 15 (fun s3 s4 wx => ∃ g, s3 = .pointer (some ⟨g, 0, none⟩) ∧ s4 = .bool o1 ∧ Hid (Rs w wx [(g, 51, D), (w.heap.size + 1, 51, 0), (w.heap.size, 51, T)]))
  case first =>
    have l0 := ldB (Y := W0.drew) rT.out (Below.refl _ _).drew
    go_region_held3 (fun w' => Below W0.heap.size W0 w' ∧ (ldW (.pointer (some ⟨w.heap.size, 0, none⟩))).run Tryz.prog w' = .ok (.agg (wn T)) w') (first | exact ⟨(Below.refl _ _).drew, ldB rT.out (Below.refl _ _).drew⟩ | exact (fun hb => ⟨hb, ldB rT.out hb⟩) (below_next (And.left (by assumption)) be) | exact (fun hb => ⟨hb, ldB rT.out hb⟩) (bel_alloc (And.left (by assumption)) _) | exact (fun hb => ⟨hb, ldB rT.out hb⟩) (bel_put (And.left (by assumption)) (by first | exact Nat.le_refl _ | exact sz1.out | exact sz2.out) _)) (first | (go_at_call 144; refine (HF.out _).mono ?_; rintro e w1 ⟨rfl, be⟩; have sz1 : Hid (W0.heap.size ≤ w1.heap.size) := bel_size (below_next (And.left (by assumption)) be); (try have z1 := hide (zero_kept_drew be)); (try have z1 := hide (zero_kept be))) | (go_at_call 114; refine (HA.out _).mono ?_; rintro e w2 ⟨rfl, be⟩; have sz2 : Hid (W0.heap.size ≤ w2.heap.size) := bel_size (below_next (And.left (by assumption)) be); (try have z2 := hide (row_kept z1.out be)); (try have z2 := hide (zero_kept be)); (first | have s1 := svW_row z2.out D | have s1 := svW_new w2 D)))
    all_goals (go_wp2_with fail; go_meet; first | exact ⟨_, rfl, rfl, (J0.out.next (And.left (by assumption))).cons (row_new _ _)⟩ | exact ⟨_, rfl, rfl, (J0.out.next (And.left (by assumption))).cons (setRow_heap _ _ _ _ _ _ z2.out)⟩)
  obtain ⟨g, rfl, rfl, J1⟩ := hcut
  have rT := hide (J1.out.at (g := w.heap.size) (t := 51) (n := T) (by simp))
  have rD := hide (J1.out.at (g := g) (t := 51) (n := D) (by simp))
  clear J0
  generalize wc = W1 at *
  go_upto_region 2 with fail
  go_cut [5, 6, 7] from 16 to 23 (fun s5 s6 s7 wx => ∃ g5 g6, s5 = .pointer (some ⟨g5, 0, none⟩) ∧ s6 = .pointer (some ⟨g6, 0, none⟩) ∧ s7 = .int .i64 0 ∧ Hid (Rs w wx [(g5, 51, Q), (w.heap.size + 1, 51, 0), (w.heap.size, 51, T)]))
  case first =>
    have J2 : Hid (Rs w W1 [(w.heap.size + 1, 51, 0), (w.heap.size, 51, T)]) := ⟨fun p hp => J1.out.row p (List.mem_cons_of_mem _ hp), J1.out.bel⟩
    go_region_held3 (fun w' => Below W1.heap.size W1 w' ∧ (ldW (.pointer (some ⟨w.heap.size, 0, none⟩))).run Tryz.prog w' = .ok (.agg (wn T)) w' ∧ (ldW (.pointer (some ⟨g, 0, none⟩))).run Tryz.prog w' = .ok (.agg (wn D)) w') (first | exact (fun hb => ⟨hb, ldB rT.out hb, ldB rD.out hb⟩) ((Below.refl _ _).drew) | exact (fun hb => ⟨hb, ldB rT.out hb, ldB rD.out hb⟩) (below_next (And.left (by assumption)) be) | exact (fun hb => ⟨hb, ldB rT.out hb, ldB rD.out hb⟩) (bel_alloc (And.left (by assumption)) _) | exact (fun hb => ⟨hb, ldB rT.out hb, ldB rD.out hb⟩) (bel_put (And.left (by assumption)) (by first | exact Nat.le_refl _ | exact Nat.le_succ _ | exact sz1.out | exact sz2.out | exact Nat.le_succ_of_le sz1.out | exact Nat.le_succ_of_le sz2.out) _)) (first | (go_at_call 146; refine (HN.out _).mono ?_; rintro e w1 ⟨rfl, be⟩; have sz1 : Hid (W1.heap.size ≤ w1.heap.size) := bel_size (below_next (And.left (by assumption)) be); (try have z1 := hide (zero_kept_drew be)); (try have y1 := hide (zero_kept2_drew be))) | (go_at_call 145; refine (HD.out _).mono ?_; rintro e w2 ⟨rfl, be⟩; have sz2 : Hid (W1.heap.size ≤ w2.heap.size) := bel_size (below_next (And.left (by assumption)) be); (first | have TW := tw (row_kept y1.out.1 be) (row_kept y1.out.2 be) (Nat.lt_succ_self _) Q R | have TW := tw (zero_kept2 be).1 (zero_kept2 be).2 (Nat.lt_succ_self _) Q R | have TW := tw (row_kept z1.out (below_next (below_allocZ _ _) be)) (zero_kept be) (lt_heap z1.out) Q R | have TW := tw_one (zero_kept be) Q R | have TW := tw_one (row_kept z1.out be) Q R | have TW := tw_two w2 Q R); have p1 := TW.p1; have p2 := TW.p2; have p3 := TW.p3; have p4 := TW.p4; have HTW := hide TW; clear TW))
    all_goals (go_wp2_with fail; go_meet; first | exact ⟨_, _, rfl, rfl, rfl, (J2.out.next (And.left (by assumption))).cons HTW.out.e1.1⟩ | exact ⟨_, _, rfl, rfl, rfl, (J2.out.next (And.left (by assumption))).cons HTW.out.e2.1⟩)
  obtain ⟨g5, g6, rfl, rfl, rfl, J2⟩ := hcut
  have rQ := hide (J2.out.at (g := g5) (t := 51) (n := Q) (by simp))
  clear J1 rT rD HN HD HA
  generalize wc = W2 at *
  go_upto_region 3 with fail
  go_cut [8, 9] from 24 to 29 (fun s8 s9 wx => ∃ g8, s8 = .pointer (some ⟨g8, 0, none⟩) ∧ s9 = .bool o2 ∧ Hid (Rs w wx [(g8, 51, V), (g5, 51, Q), (w.heap.size + 1, 51, 0), (w.heap.size, 51, T)]))
  case first =>
    go_region_held3 (fun w' => Below W2.heap.size W2 w' ∧ (ldW (.pointer (some ⟨g5, 0, none⟩))).run Tryz.prog w' = .ok (.agg (wn Q)) w') (first | exact (fun hb => ⟨hb, ldB rQ.out hb⟩) ((Below.refl _ _).drew) | exact (fun hb => ⟨hb, ldB rQ.out hb⟩) (below_next (And.left (by assumption)) be) | exact (fun hb => ⟨hb, ldB rQ.out hb⟩) (bel_alloc (And.left (by assumption)) _) | exact (fun hb => ⟨hb, ldB rQ.out hb⟩) (bel_put (And.left (by assumption)) (by first | exact Nat.le_refl _ | exact sz1.out | exact sz2.out) _)) (first | (go_at_call 144; refine (HF.out _).mono ?_; rintro e w1 ⟨rfl, be⟩; have sz1 : Hid (W2.heap.size ≤ w1.heap.size) := bel_size (below_next (And.left (by assumption)) be); (try have z1 := hide (zero_kept_drew be)); (try have z1 := hide (zero_kept be))) | (go_at_call 114; refine (HA2.out _).mono ?_; rintro e w2 ⟨rfl, be⟩; have sz2 : Hid (W2.heap.size ≤ w2.heap.size) := bel_size (below_next (And.left (by assumption)) be); (try have z2 := hide (row_kept z1.out be)); (try have z2 := hide (zero_kept be)); (first | have s1 := svW_row z2.out V | have s1 := svW_new w2 V)))
    all_goals (go_wp2_with fail; go_meet; first | exact ⟨_, rfl, rfl, (J2.out.next (And.left (by assumption))).cons (row_new _ _)⟩ | exact ⟨_, rfl, rfl, (J2.out.next (And.left (by assumption))).cons (setRow_heap _ _ _ _ _ _ z2.out)⟩)
  obtain ⟨g8, rfl, rfl, J3⟩ := hcut
  have rV := hide (J3.out.at (g := g8) (t := 51) (n := V) (by simp))
  have rr := hide (J3.out.at (g := w.heap.size + 1) (t := 51) (n := 0) (by simp))
  go_wp2_with (first | refine wpList_loadA AW rfl _ rfl g8 rfl (wn V) (wn_size _) 51 rV.out ?_ | refine wpList_storeA AW rfl _ _ rfl _ (wn V) (wn_size _) (wn_one _) rfl rfl (wn 0) (wn_size 0) 51 rr.out ?_)
  exact bodyPost_ret (v := .agg (wn V)) (resA AW Tryz.results99 _ _ (w.heap.size + 1) 51 (wn V) (wn_size _) rfl (setRow_heap _ _ _ _ _ _ rr.out)) rfl ⟨rfl, below_setRow J3.out.bel (by omega) _⟩
/-- The work of a target. -/
theorem work_yes (b : Nat) (hb : b < 4294967296) (h : okB b = true) (w : World) : Calls Tryz.prog 48 #[.int .u32 (b : Int)] w fun e w' => e = .returned (.tuple #[.agg (wn ((M - 1 - tgt b) / (tgt b + 1) + 1)), .int .i64 0]) ∧ Below w.heap.size w w' := by
  have HE := hide fun W => expand_yes b hb h W
  have hT : tgt b ≤ Lm := by
    unfold okB at h
    simp only [Bool.and_eq_true, decide_eq_true_eq] at h
    exact h.2
  have HS := hide fun W => share_any (tgt b) hT W
  have J0 := hide (Rs.start1 w 51 0)
  generalize (M - 1 - tgt b) / (tgt b + 1) + 1 = V at *
  generalize tgt b = T at *
  clear hb h hT
  go_enter Tryz.func48, Tryz.ntmps48
  go_upto_region 1 with (refine wpList_allocA AW rfl rfl ?_)
  generalize w.alloc (.cells (wn 0) 51) = W0 at *
  go_upto_region 2 with (first | (go_at_call 83; refine (HE.out _).mono ?_; rintro e w1 ⟨rfl, be⟩; have J1 := hide ((J0.out.next be).new 51 T); clear be) | refine wpList_allocA AW rfl rfl ?_ | refine wpList_store_newA AW rfl _ _ rfl _ rfl (wn T) (wn_size _) (wn_one _) rfl rfl ?_)
  generalize w1.alloc (.cells (wn T) 51) = W1 at *
  generalize w1.heap.size = g4 at *
  have rT := hide (J1.out.at (g := g4) (t := 51) (n := T) (by simp))
  go_wp2_with (first | refine wpList_loadA AW rfl _ rfl g4 rfl (wn T) (wn_size _) 51 rT.out ?_ | (go_at_call 99; refine (HS.out _).mono ?_; rintro e w2 ⟨rfl, be⟩; have J2 := hide (J1.out.next be); have rr := hide (J2.out.at (g := w.heap.size) (t := 51) (n := 0) (by simp)); clear be) | refine wpList_storeA AW rfl _ _ rfl _ (wn V) (wn_size _) (wn_one _) rfl rfl (wn 0) (wn_size 0) 51 rr.out ?_)
  exact bodyPost_ret (v := .tuple #[.agg (wn V), .int .i64 0]) (resA2 AW Tryz.results48 _ _ w.heap.size 51 (wn V) (wn_size _) rfl (setRow_heap _ _ _ _ _ _ rr.out) _ (by rfl)) rfl ⟨rfl, below_setRow J2.out.bel (Nat.le_refl _) _⟩
theorem work_no (b : Nat) (hb : b < 4294967296) (h : okB b = false) (w : World) : Calls Tryz.prog 48 #[.int .u32 (b : Int)] w fun e w' => e = .returned (.tuple #[.agg (wn 0), .int .i64 50]) ∧ Below w.heap.size w w' := by
  have HE := hide fun W => expand_no b hb h W
  have J0 := hide (Rs.start1 w 51 0)
  clear hb h
  go_enter Tryz.func48, Tryz.ntmps48
  go_upto_region 1 with (refine wpList_allocA AW rfl rfl ?_)
  generalize w.alloc (.cells (wn 0) 51) = W0 at *
  go_upto_region 2 with (first | (go_at_call 83; refine (HE.out _).mono ?_; rintro e w1 ⟨rfl, be⟩; have J1 := hide ((J0.out.next be).new 51 0); clear be) | refine wpList_allocA AW rfl rfl ?_ | refine wpList_store_newA AW rfl _ _ rfl _ rfl (wn 0) (wn_size _) (wn_one _) rfl rfl ?_)
  generalize w1.alloc (.cells (wn 0) 51) = W1 at *
  generalize w1.heap.size = g4 at *
  have rr := hide (J1.out.at (g := w.heap.size) (t := 51) (n := 0) (by simp))
  go_wp2_with (first | refine wpList_buildA AW rfl rfl ?_ | refine wpList_storeA AW rfl _ _ rfl _ (wn 0) (wn_size _) (wn_one _) rfl rfl (wn 0) (wn_size 0) 51 rr.out ?_)
  exact bodyPost_ret (v := .tuple #[.agg (wn 0), .int .i64 50]) (resA2 AW Tryz.results48 _ _ w.heap.size 51 (wn 0) (wn_size _) rfl (setRow_heap _ _ _ _ _ _ rr.out) _ (by rfl)) rfl ⟨rfl, below_setRow J1.out.bel (Nat.le_refl _) _⟩
end
end Go.Proofs.YthhojpplbhnnfaaGreatDoor
namespace Go.Proofs.YthhojpplbhnnfaaGreatDoor
open Go.RowKit
open Go.Deep
/-- How many bytes a number has; its three highest; its bits. -/
def szB (m : Nat) : Nat := (bl m + 7) / 8
def nmB (m : Nat) : Nat := if szB m < 3 then m * 2 ^ (8 * (3 - szB m)) else m / 2 ^ (8 * (szB m - 3))
def cpt (m : Nat) : Nat := if 8388608 ≤ nmB m then (szB m + 1) * 16777216 + nmB m / 256 else szB m * 16777216 + nmB m
theorem szB_le (m : Nat) (hm : m < M) : szB m ≤ 32 := by
  have := bl_le_of m 256 (by rw [← M_pow]; exact hm)
  unfold szB
  omega
theorem szB_lt (m : Nat) : m < 2 ^ (8 * szB m) := by
  have h := bl_lt m
  have : 2 ^ bl m ≤ 2 ^ (8 * szB m) := Nat.pow_le_pow_right (by decide) (by unfold szB; omega)
  omega
theorem nmB_lt (m : Nat) : nmB m < 16777216 := by
  have h := szB_lt m
  unfold nmB
  split
  · rename_i h3
    have e : (16777216 : Nat) = 2 ^ (8 * szB m) * 2 ^ (8 * (3 - szB m)) := by rw [← Nat.pow_add, show 8 * szB m + 8 * (3 - szB m) = 24 by omega]
    rw [e]
    exact Nat.mul_lt_mul_of_pos_right h (Nat.two_pow_pos _)
  · rename_i h3
    rw [Nat.div_lt_iff_lt_mul (Nat.two_pow_pos _)]
    have e : (16777216 : Nat) * 2 ^ (8 * (szB m - 3)) = 2 ^ (8 * szB m) := by rw [show (16777216 : Nat) = 2 ^ 24 from rfl, ← Nat.pow_add, show 24 + 8 * (szB m - 3) = 8 * szB m by omega]
    rw [e]
    exact h
theorem and_bit64 (n : Nat) (hn : n < 16777216) : (bits .and .u64 (n : Int) 8388608 != 0) = decide (8388608 ≤ n) := by
  have e := u64_and_nat n 8388608 (by omega) (by decide)
  rw [show ((8388608 : Nat) : Int) = 8388608 from rfl] at e
  have e2 : n &&& 8388608 = if n / 8388608 % 2 = 1 then 8388608 else 0 := and_pow n 23
  rw [e, e2]
  by_cases h : 8388608 ≤ n
  · rw [if_pos (by omega)]
    simp only [h]
    decide
  · rw [if_neg (by omega)]
    simp only [h]
    decide
theorem or_size (s n : Nat) (hs : s ≤ 255) (hn : n < 16777216) : bits .or .u32 ((s : Int) % 4294967296 * 16777216 % 4294967296) ((n : Int) % 4294967296) = ((s * 16777216 + n : Nat) : Int) := by
  rw [show (s : Int) % 4294967296 * 16777216 % 4294967296 = ((s * 16777216 : Nat) : Int) by omega, show (n : Int) % 4294967296 = (n : Int) by omega]
  rw [u32_or_nat _ _ (by omega) (by omega)]
  congr 1
  have := Nat.two_pow_add_eq_or_of_lt (i := 24) (b := n) hn s
  rw [Nat.mul_comm s, show (16777216 : Nat) = 2 ^ 24 from rfl, this]
section
set_option maxRecDepth 10000
set_option maxHeartbeats 2000000
theorem compact_any (m : Nat) (hm : m < M) (w : World) : Calls Tryz.prog 169 #[.agg (wn m)] w fun e w' => e = .returned (.int .u32 ((cpt m : Nat) : Int)) ∧ Below w.heap.size w w' := by
  have HB := hide fun W => bits_any m hm W
  have hs := szB_le m hm
  have hn := nmB_lt m
  have hb := bl_le_of m 256 (by rw [← M_pow]; exact hm)
  have hnM : nmB m < M := Nat.lt_trans hn (by decide)
  have HL := hide fun W => low_yes (nmB m) hnM (by omega) W
  have HR : Hid (∀ W, Calls Tryz.prog 210 #[.agg (wn m), .int .i64 (8 * ((szB m : Int) - 3))] W fun e w' => e = .returned (.agg (wn (nmB m))) ∧ Below W.heap.size W w') := by
    intro W
    unfold nmB
    by_cases h3 : szB m < 3
    · rw [if_pos h3]
      exact right_neg m (8 * ((szB m : Int) - 3)) (8 * (3 - szB m)) (by omega) (by unfold sh; rw [if_neg (by omega), if_neg (by omega)]; omega) (by omega) W
    · rw [if_neg h3]
      exact right_pos m (8 * ((szB m : Int) - 3)) (8 * (szB m - 3)) hm (by unfold sh; rw [if_neg (by omega), if_neg (by omega)]; omega) (by omega) W
  have w1 : IntKind.i64.wrap ((bl m : Int) + 8) = (bl m : Int) + 8 := wrapI _ (by omega) (by omega)
  have w2 : IntKind.i64.wrap ((bl m : Int) + 8 - 1) = (bl m : Int) + 8 - 1 := wrapI _ (by omega) (by omega)
  have w3 : ((bl m : Int) + 8 - 1) / 8 = (szB m : Int) := by unfold szB; omega
  have w3t : Int.tdiv ((bl m : Int) + 8 - 1) 8 = (szB m : Int) := by rw [Int.tdiv_eq_ediv_of_nonneg (by omega)]; exact w3
  have w8 : wrap64 (szB m : Int) = (szB m : Int) := by unfold wrap64; omega
  have w4 : IntKind.i64.wrap ((szB m : Int) - 3) = (szB m : Int) - 3 := wrapI _ (by omega) (by omega)
  have w5 : IntKind.i64.wrap (8 * ((szB m : Int) - 3)) = 8 * ((szB m : Int) - 3) := wrapI _ (by omega) (by omega)
  have w6 : IntKind.i64.wrap ((szB m : Int) + 1) = ((szB m + 1 : Nat) : Int) := by rw [wrapI _ (by omega) (by omega)]; omega
  have w7 : ((nmB m : Nat) : Int) / 256 = ((nmB m / 256 : Nat) : Int) := by omega
  have hab := and_bit64 (nmB m) hn
  have o1 := or_size (szB m) (nmB m) (by omega) hn
  have o2 := or_size (szB m + 1) (nmB m / 256) (by omega) (by omega)
  have J0 := hide (Rs.start1 w 51 m)
  unfold cpt
  generalize hbl : (bl m : Int) = B at *
  generalize szB m + 1 = s1 at *
  generalize nmB m / 256 = n1 at *
  generalize szB m = s at *
  generalize nmB m = n at *
  clear hs hb hbl hnM hm
  by_cases hge : 8388608 ≤ n
  · rw [if_pos hge]
    rw [show decide (8388608 ≤ n) = true by simp [hge]] at hab
    obtain ⟨C, hC⟩ : ∃ C, C = s1 * 16777216 + n1 := ⟨_, rfl⟩
    rw [← hC] at o2 ⊢
    clear hC
    clear hge hn o1
    go_enter Tryz.func169, Tryz.ntmps169
    go_upto_region 1 with (refine wpList_boxA rfl _ rfl (wn m) rfl ?_)
    generalize w.alloc (.cells (wn m) 51) = W0 at *
    have r0 := hide (J0.out.at (g := w.heap.size) (t := 51) (n := m) (by simp))
    go_wp2_with (first | refine wpList_loadA AW rfl _ rfl w.heap.size rfl (wn m) (wn_size _) 51 r0.out ?_ | refine wpList_loadA AW rfl _ rfl w.heap.size rfl (wn m) (wn_size _) 51 r1.out ?_ | (go_at_call 209; refine (HB.out _).mono ?_; rintro e w1 ⟨rfl, be⟩; have J1 := hide (J0.out.next be); have r1 := hide (J1.out.at (g := w.heap.size) (t := 51) (n := m) (by simp)); clear be) | (go_at_call 210; refine (HR.out _).mono ?_; rintro e w2 ⟨rfl, be⟩; have J2 := hide (J1.out.next be); clear be) | (go_at_call 189; refine (HL.out _).mono ?_; rintro e w3 ⟨rfl, be⟩; have J3 := hide (J2.out.next be); clear be))
    go_ret
    exact ⟨rfl, J3.out.bel⟩
  · rw [if_neg hge]
    rw [show decide (8388608 ≤ n) = false by simp [hge]] at hab
    obtain ⟨C, hC⟩ : ∃ C, C = s * 16777216 + n := ⟨_, rfl⟩
    rw [← hC] at o1 ⊢
    clear hC
    clear hge hn o2
    go_enter Tryz.func169, Tryz.ntmps169
    go_upto_region 1 with (refine wpList_boxA rfl _ rfl (wn m) rfl ?_)
    generalize w.alloc (.cells (wn m) 51) = W0 at *
    have r0 := hide (J0.out.at (g := w.heap.size) (t := 51) (n := m) (by simp))
    go_wp2_with (first | refine wpList_loadA AW rfl _ rfl w.heap.size rfl (wn m) (wn_size _) 51 r0.out ?_ | refine wpList_loadA AW rfl _ rfl w.heap.size rfl (wn m) (wn_size _) 51 r1.out ?_ | (go_at_call 209; refine (HB.out _).mono ?_; rintro e w1 ⟨rfl, be⟩; have J1 := hide (J0.out.next be); have r1 := hide (J1.out.at (g := w.heap.size) (t := 51) (n := m) (by simp)); clear be) | (go_at_call 210; refine (HR.out _).mono ?_; rintro e w2 ⟨rfl, be⟩; have J2 := hide (J1.out.next be); clear be) | (go_at_call 189; refine (HL.out _).mono ?_; rintro e w3 ⟨rfl, be⟩; have J3 := hide (J2.out.next be); clear be))
    go_ret
    exact ⟨rfl, J3.out.bel⟩
theorem okB_lim : okB 545259519 = true := by decide +kernel
theorem work_lim : (M - 1 - Lm) / (Lm + 1) + 1 = 2 := by decide +kernel
theorem cpt_lim : cpt Lm = 545259519 := by decide +kernel
end
end Go.Proofs.YthhojpplbhnnfaaGreatDoor
namespace Go.Proofs.YthhojpplbhnnfaaGreatDoor
open Go.RowKit
open Go.Deep
theorem hszU (w : World) (o : Obj) : (w.alloc o).heap.size = w.heap.size + 1 := by simp
/-- A byte more in a number. -/
theorem put_byte (x b i : Nat) (hx : x < 256 ^ i) (hb : b < 256) : b * 2 ^ (8 * (i % 8)) < 18446744073709551616 ∧ wd x (i / 8) ||| b * 2 ^ (8 * (i % 8)) = wd (x + b * 256 ^ i) (i / 8) ∧ ∀ j, j ≠ i / 8 → wd (x + b * 256 ^ i) j = wd x j := by
  have hp : 256 ^ i = 2 ^ (8 * i) := by rw [Nat.pow_mul]
  rw [hp] at hx ⊢
  have e : x + b * 2 ^ (8 * i) = b * 2 ^ (8 * i) ||| x := by
    rw [Nat.mul_comm, ← Nat.two_pow_add_eq_or_of_lt hx, Nat.add_comm]
  have hbt : ∀ n, 8 ≤ n → b.testBit n = false := fun n hn => Nat.testBit_lt_two_pow (Nat.lt_of_lt_of_le hb (show 256 ≤ 2 ^ n from Nat.pow_le_pow_right (n := 2) (i := 8) (j := n) (by decide) hn))
  refine ⟨?_, ?_, fun j hj => ?_⟩
  · have h1 : b * 2 ^ (8 * (i % 8)) < 2 ^ 8 * 2 ^ (8 * (i % 8)) := Nat.mul_lt_mul_of_pos_right hb (Nat.two_pow_pos _)
    have h2 : 2 ^ 8 * 2 ^ (8 * (i % 8)) ≤ 2 ^ 64 := by
      rw [← Nat.pow_add]
      exact Nat.pow_le_pow_right (by decide) (by omega)
    omega
  · apply word_ext
    intro t
    rw [e, wd_bit, Nat.testBit_or, Nat.testBit_or, wd_bit, Nat.testBit_mul_two_pow, Nat.testBit_mul_two_pow]
    by_cases ht : t < 64
    · rw [show (decide (8 * i ≤ 64 * (i / 8) + t)) = decide (8 * (i % 8) ≤ t) by rw [Bool.eq_iff_iff]; simp; omega]
      by_cases h8 : 8 * (i % 8) ≤ t
      · rw [show 64 * (i / 8) + t - 8 * i = t - 8 * (i % 8) by omega]
        simp [ht, Bool.or_comm]
      · simp [ht, h8]
    · rw [hbt (t - 8 * (i % 8)) (by omega)]
      simp [ht]
  · apply word_ext
    intro t
    rw [e, wd_bit, wd_bit, Nat.testBit_or, Nat.testBit_mul_two_pow]
    by_cases ht : t < 64
    · by_cases h8 : 8 * i ≤ 64 * j + t
      · rw [hbt (64 * j + t - 8 * i) (by omega)]
        simp
      · simp [h8]
    · simp [ht]
/-- A byte out of an array that is a value. -/
theorem run_indexH (l : List UInt8) (i : Nat) (h : i < l.length) (hl : l.length = 32) (w : World) : (Instr.index 46 (.agg (hc l)) (.int .i64 (i : Int))).run Tryz.prog w = .ok (.int .u8 ((by8 l i : Nat) : Int)) w := by
  have hp : (Go.part 5 (hc l) (i * 1)).run Tryz.prog w = .ok (.int .u8 ((by8 l i : Nat) : Int)) w := by
    simp [Go.part, isAgg, run_underlying Tryz.underlying5, hc_at l i h]
  rw [Nat.mul_one] at hp
  have h32 : i < 32 := by omega
  simp [Instr.index, asIntOf, run_underlying Tryz.underlying46, h32, hp]
theorem wpList_indexH {w : World} {ops : Array Oper} {rest : List Oper} {o : Oper} {a : Act} {Q : Exit → Act → World → Prop} (hgd : o.guard = none) (x y : Operand) (ho : o.op = .index 46 x y) (l : List UInt8) (hl : l.length = 32) (i : Nat) (hx : a.eval x = .agg (hc l)) (hy : a.eval y = .int .i64 (i : Int)) (hi : i < l.length)
    (h : wpList Tryz.prog ops Q rest (a.put o.dst (.int .u8 ((by8 l i : Nat) : Int))) w) : wpList Tryz.prog ops Q (o :: rest) a w := by
  refine wpList_plain hgd fun K hK => ?_
  unfold Oper.wp execOp
  simp only [ho, hx, hy, run_indexH l i hi hl w, Sem.run_bind, Result.andThen_ok, Sem.run_pure]
  exact hK _ _ h
/-- Bytes, an answer's place, and a row of words. -/
structure Ow (w W : World) (l : List UInt8) (x : Nat) : Prop where
  a : W.heap[w.heap.size]? = some (.cells (hc l) 46 (0, 0))
  r : W.heap[w.heap.size + 1]? = some (.cells (wn 0) 51 (0, 0))
  o : Nd W (w.heap.size + 1 + 1) 51 4 (wd x)
  bel : Below w.heap.size w W
theorem Ow.start (w : World) (l : List UInt8) : Ow w (((w.alloc (.cells (hc l) 46)).alloc (.cells (wn 0) 51)).alloc (.cells (wn 0) 51)) l 0 := by
  obtain ⟨e1, e2, e3⟩ := blk3 w (.cells (hc l) 46) (.cells (wn 0) 51) (.cells (wn 0) 51)
  exact ⟨e1, e2, Nd.of_heap e3, below3 w _ _ _⟩
theorem Ow.set {w W : World} {l : List UInt8} {x : Nat} (j : Ow w W l x) (i v y : Nat) (e : ∀ k, (if k = i then v else wd x k) = wd y k) : Ow w (W.setCell ⟨w.heap.size + 1 + 1, i, none⟩ (.int .u64 ((v : Nat) : Int))) l y :=
  ⟨(Below.heap_setCell _ _ _ _ (by simp <;> omega)).trans j.a, (Below.heap_setCell _ _ _ _ (by simp <;> omega)).trans j.r, (j.o.set i v).congr (fun k _ => e k), j.bel.setCell (by simp <;> omega) _⟩
theorem Ow.drew {w W : World} {l : List UInt8} {x : Nat} (j : Ow w W l x) : Ow w W.drew l x := ⟨j.a, j.r, j.o, j.bel.drew⟩
section
set_option maxRecDepth 10000
set_option maxHeartbeats 2000000
theorem ofW_any (l : List UInt8) (hl : l.length = 32) (w : World) : Calls Tryz.prog 113 #[.agg (hc l)] w fun e w' => e = .returned (.agg (wn (vs 256 (by8 l) 32))) ∧ Below w.heap.size w w' := by
  have J0 : Hid (Ow w (((w.alloc (.cells (hc l) 46)).alloc (.cells (wn 0) 51)).alloc (.cells (wn 0) 51)) l (vs 256 (by8 l) 0)) := Ow.start w l
  have a0 := hide J0.out.a
  have HL := hide hl
  have hcs : (hc l).size = 32 := by rw [hc_size]; exact hl
  have HCS := hide hcs
  clear hl hcs
  go_enter Tryz.func113, Tryz.ntmps113
  go_upto_region 2 with (first | refine wpList_boxA rfl _ rfl (hc l) rfl ?_ | refine wpList_allocA AW rfl rfl ?_)
  try simp only [Act.put, List.setIfInBounds_toArray, List.set_cons_succ, List.set_cons_zero, hszU]
  generalize ((w.alloc (.cells (hc l) 46)).alloc (.cells (wn 0) 51)).alloc (.cells (wn 0) 51) = W0 at *
  go_wp2_with (refine wpList_loadA A25 rfl _ rfl _ rfl (hc l) HCS.out 46 a0.out ?_)
  go_loopw [4, 5, 7] (fun _ _ d wr => ∃ i : Nat, i ≤ 32 ∧ d = .int .i64 i ∧ Hid (Ow w wr l (vs 256 (by8 l) i))) (fun _ _ d _ => (32 - intOf d).toNat)
  case atStart => exact ⟨0, by omega, rfl, J0⟩
  case round =>
    clear J0 a0
    obtain ⟨i, hi, rfl, J⟩ := hrel
    by_cases hlt : i < 32
    · have hi4 : (i : Int) < 32 := by omega
      have i0 : (0 : Int) ≤ i := by omega
      obtain ⟨p1, p2, p3⟩ := put_byte (vs 256 (by8 l) i) (by8 l i) i (vs_lt (fun k _ => by8_lt l k)) (by8_lt l i)
      have hor := u64_or_nat (wd (vs 256 (by8 l) i) (i / 8)) (by8 l i * 2 ^ (8 * (i % 8))) (wd_lt _ _) p1
      rw [p2] at hor
      have hsh := shl_word (by8 l i) (8 * (i % 8))
      rw [Nat.mod_eq_of_lt p1] at hsh
      have hb := by8_lt l i
      have hw : IntKind.u64.wrap ((by8 l i : Nat) : Int) = ((by8 l i : Nat) : Int) := wrapu _ (by omega) (by omega)
      have d1 : (i : Int) / 8 = ((i / 8 : Nat) : Int) := by omega
      have d2 : (i : Int) % 8 = ((i % 8 : Nat) : Int) := by omega
      have c1 : IntKind.i64.wrap (8 * ((i % 8 : Nat) : Int)) = ((8 * (i % 8) : Nat) : Int) := by rw [wrapI _ (by omega) (by omega)]; omega
      have q4 : ((i / 8 : Nat) : Int) < 4 := by omega
      have q0 : (0 : Int) ≤ ((i / 8 : Nat) : Int) := by omega
      have r6 : ((8 * (i % 8) : Nat) : Int) ≤ 64 := by omega
      have r0 : (0 : Int) ≤ ((8 * (i % 8) : Nat) : Int) := by omega
      have hiw : IntKind.i64.wrap ((i : Int) + 1) = i + 1 := wrapI _ (by omega) (by omega)
      have Q4 := hide (show i / 8 < 4 by omega)
      have HN : Hid (∀ k, (if k = i / 8 then wd (vs 256 (by8 l) i + by8 l i * 256 ^ i) (i / 8) else wd (vs 256 (by8 l) i) k) = wd (vs 256 (by8 l) (i + 1)) k) := fun k => by
        show _ = wd (vs 256 (by8 l) i + by8 l i * 256 ^ i) k
        split
        · rename_i h
          rw [h]
        · rename_i h
          exact (p3 k h).symm
      have LL := hide hlt
      have LI := hide (show i < l.length by rw [HL.out]; exact hlt)
      clear hlt hi hb p1 p2 p3
      generalize hY : vs 256 (by8 l) (i + 1) = Y at *
      have HY := hide hY
      clear hY
      generalize hV : wd (vs 256 (by8 l) i + by8 l i * 256 ^ i) (i / 8) = V at *
      clear hV
      generalize vs 256 (by8 l) i = X at *
      generalize by8 l i * 2 ^ (8 * (i % 8)) = bs at *
      generalize 8 * (i % 8) = r at *
      generalize i % 8 = e at *
      generalize hq : i / 8 = q at *
      clear hq
      go_upto_region 5 with (refine wpList_indexH rfl _ _ rfl l HL.out i rfl rfl LI.out ?_)
      have cq := J.out.o.cell Q4.out
      have fq := J.out.o.fz q
      go_region
      go_wp2
      have L4 := LL.out
      exact ⟨⟨i + 1, by omega, by go_num, by rw [HY.out]; exact hide ((J.out.set q V Y HN.out).drew)⟩, by simp [intOf]; omega⟩
    · have hke : i = 32 := by omega
      subst hke
      have H2 := J.out.o.heap
      go_wp2_with (first | refine wpList_loadA AW rfl _ rfl _ rfl (wn (vs 256 (by8 l) 32)) (wn_size _) 51 H2 ?_ | refine wpList_storeA AW rfl _ _ rfl _ (wn (vs 256 (by8 l) 32)) (wn_size _) (wn_one _) rfl rfl (wn 0) (wn_size 0) 51 J.out.r ?_)
      exact bodyPost_ret (v := .agg (wn (vs 256 (by8 l) 32))) (resA AW Tryz.results113 _ _ (w.heap.size + 1) 51 (wn (vs 256 (by8 l) 32)) (wn_size _) rfl (setRow_heap _ _ _ _ _ _ J.out.r)) rfl ⟨rfl, below_setRow J.out.bel (by omega) _⟩
end
end Go.Proofs.YthhojpplbhnnfaaGreatDoor
