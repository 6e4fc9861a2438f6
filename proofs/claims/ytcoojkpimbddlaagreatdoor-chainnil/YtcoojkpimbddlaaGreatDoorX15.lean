/- Regions that draw their order, with calls, new rows and stores into them: what is known of the rows in every order. The contracts of target.share and target.Work. The contract of target.Compact; awake. The contract of wide.Of. The contracts of target.Meets and the document's Meets. -/
import Derived.Test.YtcoojkpimbddlaaGreatDoorX12
import Derived.Test.YtcoojkpimbddlaaGreatDoorX14
import Derived.Test.YtcoojkpimbddlaaGreatDoorX13
namespace Go.Proofs.YtcoojkpimbddlaaGreatDoor
open Go.RowKit
open Go.Deep
theorem ldB {W0 Y : World} {N T : Nat} {t : TypeId} (hN : W0.heap[N]? = some (.cells (wn T) t (0, 0))) (B : Below W0.heap.size W0 Y) : (ldW (.pointer (some ⟨N, 0, none⟩))).run Tryz.prog Y = .ok (.agg (wn T)) Y := ldW_row ((B.block _ (lt_heap hN)).trans hN)
theorem bel_alloc {W0 Y : World} (B : Below W0.heap.size W0 Y) (o : Obj) : Below W0.heap.size W0 (Y.alloc o) := below_next B (below_allocZ Y o)
theorem bel_size {W0 Y : World} (B : Below W0.heap.size W0 Y) : W0.heap.size ≤ Y.heap.size := B.size
theorem bel_put {W0 Y : World} {g : Nat} (B : Below W0.heap.size W0 Y) (h : W0.heap.size ≤ g) (c : Array Value) : Below W0.heap.size W0 (Y.setRow g c) := below_setRow B h c
theorem Rs.cons {w W : World} {l : List (Nat × TypeId × Nat)} {g n : Nat} {t : TypeId} (j : Rs w W l) (h : W.heap[g]? = some (.cells (wn n) t (0, 0))) : Rs w W ((g, t, n) :: l) := by
  refine ⟨fun p hp => ?_, j.bel⟩
  rcases List.mem_cons.1 hp with rfl | h2
  · exact h
  · exact j.row p h2
theorem row_new (W : World) (n : Nat) : ((W.alloc (.cells #[.int .u64 0, .int .u64 0, .int .u64 0, .int .u64 0] 51)).setRow W.heap.size (wn n)).heap[W.heap.size]? = some (.cells (wn n) 51 (0, 0)) := by
  rw [← zW_eq]
  exact setRow_heap _ _ _ _ _ _ (heap_alloc_last W _)
theorem zero_kept {W Y : World} (be : Below (W.alloc (.cells #[.int .u64 0, .int .u64 0, .int .u64 0, .int .u64 0] 51)).heap.size (W.alloc (.cells #[.int .u64 0, .int .u64 0, .int .u64 0, .int .u64 0] 51)) Y) : Y.heap[W.heap.size]? = some (.cells (wn 0) 51 (0, 0)) :=
  (be.block _ (by simp)).trans (by rw [zW_eq]; exact heap_alloc_last W _)
theorem zero_kept_drew {W Y : World} (be : Below (W.alloc (.cells #[.int .u64 0, .int .u64 0, .int .u64 0, .int .u64 0] 51)).drew.heap.size (W.alloc (.cells #[.int .u64 0, .int .u64 0, .int .u64 0, .int .u64 0] 51)).drew Y) : Y.heap[W.heap.size]? = some (.cells (wn 0) 51 (0, 0)) :=
  (be.block _ (by simp)).trans (by rw [zW_eq]; exact heap_alloc_last W _)
theorem row_kept {W Y : World} {g n : Nat} {t : TypeId} (z : W.heap[g]? = some (.cells (wn n) t (0, 0))) (be : Below W.heap.size W Y) : Y.heap[g]? = some (.cells (wn n) t (0, 0)) := (be.block _ (lt_heap z)).trans z
theorem zero_kept2 {W Y : World} (be : Below ((W.alloc (.cells #[.int .u64 0, .int .u64 0, .int .u64 0, .int .u64 0] 51)).alloc (.cells #[.int .u64 0, .int .u64 0, .int .u64 0, .int .u64 0] 51)).heap.size ((W.alloc (.cells #[.int .u64 0, .int .u64 0, .int .u64 0, .int .u64 0] 51)).alloc (.cells #[.int .u64 0, .int .u64 0, .int .u64 0, .int .u64 0] 51)) Y) : Y.heap[W.heap.size]? = some (.cells (wn 0) 51 (0, 0)) ∧ Y.heap[W.heap.size + 1]? = some (.cells (wn 0) 51 (0, 0)) := by
  rw [zW_eq]
  exact ⟨(be.block _ (by simp <;> omega)).trans (blk2x W _ _).1, (be.block _ (by simp <;> omega)).trans (blk2x W _ _).2⟩
theorem zero_kept2_drew {W Y : World} (be : Below ((W.alloc (.cells #[.int .u64 0, .int .u64 0, .int .u64 0, .int .u64 0] 51)).alloc (.cells #[.int .u64 0, .int .u64 0, .int .u64 0, .int .u64 0] 51)).drew.heap.size ((W.alloc (.cells #[.int .u64 0, .int .u64 0, .int .u64 0, .int .u64 0] 51)).alloc (.cells #[.int .u64 0, .int .u64 0, .int .u64 0, .int .u64 0] 51)).drew Y) : Y.heap[W.heap.size]? = some (.cells (wn 0) 51 (0, 0)) ∧ Y.heap[W.heap.size + 1]? = some (.cells (wn 0) 51 (0, 0)) := by
  rw [zW_eq]
  exact ⟨(be.block _ (by simp <;> omega)).trans (blk2x W _ _).1, (be.block _ (by simp <;> omega)).trans (blk2x W _ _).2⟩
structure Tw (X : World) (gA gB Q R : Nat) : Prop where
  p1 : (svW (.pointer (some ⟨gA, 0, none⟩)) (.agg (wn Q))).run Tryz.prog X = .ok () (X.setRow gA (wn Q))
  p2 : (svW (.pointer (some ⟨gB, 0, none⟩)) (.agg (wn Q))).run Tryz.prog X = .ok () (X.setRow gB (wn Q))
  p3 : (svW (.pointer (some ⟨gB, 0, none⟩)) (.agg (wn R))).run Tryz.prog (X.setRow gA (wn Q)) = .ok () ((X.setRow gA (wn Q)).setRow gB (wn R))
  p4 : (svW (.pointer (some ⟨gA, 0, none⟩)) (.agg (wn R))).run Tryz.prog (X.setRow gB (wn Q)) = .ok () ((X.setRow gB (wn Q)).setRow gA (wn R))
  e1 : ((X.setRow gA (wn Q)).setRow gB (wn R)).heap[gA]? = some (.cells (wn Q) 51 (0, 0)) ∧ ((X.setRow gA (wn Q)).setRow gB (wn R)).heap[gB]? = some (.cells (wn R) 51 (0, 0))
  e2 : ((X.setRow gB (wn Q)).setRow gA (wn R)).heap[gB]? = some (.cells (wn Q) 51 (0, 0)) ∧ ((X.setRow gB (wn Q)).setRow gA (wn R)).heap[gA]? = some (.cells (wn R) 51 (0, 0))
theorem tw {X : World} {gA gB : Nat} (zA : X.heap[gA]? = some (.cells (wn 0) 51 (0, 0))) (zB : X.heap[gB]? = some (.cells (wn 0) 51 (0, 0))) (h : gA < gB) (Q R : Nat) : Tw X gA gB Q R := by
  have a1 : (X.setRow gA (wn Q)).heap[gB]? = some (.cells (wn 0) 51 (0, 0)) := (setRow_other _ _ _ _ (by omega)).trans zB
  have a2 : (X.setRow gB (wn Q)).heap[gA]? = some (.cells (wn 0) 51 (0, 0)) := (setRow_other _ _ _ _ (by omega)).trans zA
  exact ⟨svW_row zA Q, svW_row zB Q, svW_row a1 R, svW_row a2 R, ⟨(setRow_other _ _ _ _ (by omega)).trans (setRow_heap _ _ _ _ _ _ zA), setRow_heap _ _ _ _ _ _ a1⟩, ⟨(setRow_other _ _ _ _ (by omega)).trans (setRow_heap _ _ _ _ _ _ zB), setRow_heap _ _ _ _ _ _ a2⟩⟩
theorem tw_one {X : World} {gA : Nat} (zA : X.heap[gA]? = some (.cells (wn 0) 51 (0, 0))) (Q R : Nat) : Tw (X.alloc (.cells #[.int .u64 0, .int .u64 0, .int .u64 0, .int .u64 0] 51)) gA X.heap.size Q R := by
  rw [← zW_eq]
  exact tw ((Below.heap_alloc _ _ _ (lt_heap zA)).trans zA) (heap_alloc_last X _) (lt_heap zA) Q R
theorem tw_two (X : World) (Q R : Nat) : Tw ((X.alloc (.cells #[.int .u64 0, .int .u64 0, .int .u64 0, .int .u64 0] 51)).alloc (.cells #[.int .u64 0, .int .u64 0, .int .u64 0, .int .u64 0] 51)) X.heap.size (X.heap.size + 1) Q R := by
  rw [← zW_eq]
  exact tw (blk2x X _ _).1 (blk2x X _ _).2 (by omega) Q R
attribute [local go_sem ↓] ldW_eq svW_eq
section
set_option maxRecDepth 10000
set_option maxHeartbeats 4000000
theorem share_any (T : Nat) (hT : T ≤ Lm) (w : World) : Calls Tryz.prog 110 #[.agg (wn T)] w fun e w' => e = .returned (.agg (wn ((M - 1 - T) / (T + 1) + 1))) ∧ Below w.heap.size w w' := by
  have hL : Lm + 1 < M := by decide +kernel
  have HF : Hid (∀ W, Calls Tryz.prog 182 #[.int .u64 1] W fun e w' => e = .returned (.agg (wn 1)) ∧ Below W.heap.size W w') := fun W => from_any 1 (by decide) W
  have HA := hide fun W => wadd_any T 1 (by omega) (by decide) W
  have HN := hide fun W => not_any T (by omega) W
  have HD := hide fun W => div_any (M - 1 - T) (T + 1) (by omega) (by omega) (by omega) W
  have hQ : (M - 1 - T) / (T + 1) < M := Nat.lt_of_le_of_lt (Nat.div_le_self _ _) (by omega)
  have HA2 := hide fun W => wadd_any ((M - 1 - T) / (T + 1)) 1 hQ (by decide) W
  have J0 : Hid (Rs w ((w.alloc (.cells (wn T) 51)).alloc (.cells (wn 0) 51)) [(w.heap.size + 1, 51, 0), (w.heap.size, 51, T)]) := Rs.start2 w 51 T 0
  generalize decide (M ≤ T + 1) = o1 at *
  generalize decide (M ≤ (M - 1 - T) / (T + 1) + 1) = o2 at *
  generalize (M - 1 - T) / (T + 1) + 1 = V at *
  generalize (M - 1 - T) / (T + 1) = Q at *
  generalize (M - 1 - T) % (T + 1) = R at *
  generalize M - 1 - T = U at *
  generalize T + 1 = D at *
  clear hT hL hQ
  go_enter Tryz.func110, Tryz.ntmps110
  go_upto_region 1 with (first | refine wpList_boxA rfl _ rfl (wn T) rfl ?_ | refine wpList_allocA AW rfl rfl ?_)
  generalize (w.alloc (.cells (wn T) 51)).alloc (.cells (wn 0) 51) = W0 at *
  try simp only [Act.put, List.setIfInBounds_toArray, List.set_cons_succ, List.set_cons_zero, hsz]
  have rT := hide (J0.out.at (g := w.heap.size) (t := 51) (n := T) (by simp))
  go_cut [3, 4] from 10 to 15 (fun s3 s4 wx => ∃ g, s3 = .pointer (some ⟨g, 0, none⟩) ∧ s4 = .bool o1 ∧ Hid (Rs w wx [(g, 51, D), (w.heap.size + 1, 51, 0), (w.heap.size, 51, T)]))
  case first =>
    have l0 := ldB (Y := W0.drew) rT.out (Below.refl _ _).drew
    go_region_held3 (fun w' => Below W0.heap.size W0 w' ∧ (ldW (.pointer (some ⟨w.heap.size, 0, none⟩))).run Tryz.prog w' = .ok (.agg (wn T)) w') (first | exact ⟨(Below.refl _ _).drew, ldB rT.out (Below.refl _ _).drew⟩ | exact (fun hb => ⟨hb, ldB rT.out hb⟩) (below_next (And.left (by assumption)) be) | exact (fun hb => ⟨hb, ldB rT.out hb⟩) (bel_alloc (And.left (by assumption)) _) | exact (fun hb => ⟨hb, ldB rT.out hb⟩) (bel_put (And.left (by assumption)) (by first | exact Nat.le_refl _ | exact sz1.out | exact sz2.out) _)) (first | (go_at_call 182; refine (HF.out _).mono ?_; rintro e w1 ⟨rfl, be⟩; have sz1 : Hid (W0.heap.size ≤ w1.heap.size) := bel_size (below_next (And.left (by assumption)) be); (try have z1 := hide (zero_kept_drew be)); (try have z1 := hide (zero_kept be))) | (go_at_call 181; refine (HA.out _).mono ?_; rintro e w2 ⟨rfl, be⟩; have sz2 : Hid (W0.heap.size ≤ w2.heap.size) := bel_size (below_next (And.left (by assumption)) be); (try have z2 := hide (row_kept z1.out be)); (try have z2 := hide (zero_kept be)); (first | have s1 := svW_row z2.out D | have s1 := svW_new w2 D)))
    all_goals (go_wp2_with fail; go_meet; first | exact ⟨_, rfl, rfl, (J0.out.next (And.left (by assumption))).cons (row_new _ _)⟩ | exact ⟨_, rfl, rfl, (J0.out.next (And.left (by assumption))).cons (setRow_heap _ _ _ _ _ _ z2.out)⟩)
  obtain ⟨g, rfl, rfl, J1⟩ := hcut
  have rT := hide (J1.out.at (g := w.heap.size) (t := 51) (n := T) (by simp))
  have rD := hide (J1.out.at (g := g) (t := 51) (n := D) (by simp))
  clear J0
  generalize wc = W1 at *
  go_upto_region 2 with fail
  go_cut [5, 6, 7] from 16 to 23 (fun s5 s6 s7 wx => ∃ g5 g6, s5 = .pointer (some ⟨g5, 0, none⟩) ∧ s6 = .pointer (some ⟨g6, 0, none⟩) ∧ s7 = .int .i64 0 ∧ Hid (Rs w wx [(g5, 51, Q), (w.heap.size + 1, 51, 0), (w.heap.size, 51, T)]))
  case first =>
    have J2 : Hid (Rs w W1 [(w.heap.size + 1, 51, 0), (w.heap.size, 51, T)]) := ⟨fun p hp => J1.out.row p (List.mem_cons_of_mem _ hp), J1.out.bel⟩
    go_region_held3 (fun w' => Below W1.heap.size W1 w' ∧ (ldW (.pointer (some ⟨w.heap.size, 0, none⟩))).run Tryz.prog w' = .ok (.agg (wn T)) w' ∧ (ldW (.pointer (some ⟨g, 0, none⟩))).run Tryz.prog w' = .ok (.agg (wn D)) w') (first | exact (fun hb => ⟨hb, ldB rT.out hb, ldB rD.out hb⟩) ((Below.refl _ _).drew) | exact (fun hb => ⟨hb, ldB rT.out hb, ldB rD.out hb⟩) (below_next (And.left (by assumption)) be) | exact (fun hb => ⟨hb, ldB rT.out hb, ldB rD.out hb⟩) (bel_alloc (And.left (by assumption)) _) | exact (fun hb => ⟨hb, ldB rT.out hb, ldB rD.out hb⟩) (bel_put (And.left (by assumption)) (by first | exact Nat.le_refl _ | exact Nat.le_succ _ | exact sz1.out | exact sz2.out | exact Nat.le_succ_of_le sz1.out | exact Nat.le_succ_of_le sz2.out) _)) (first | (go_at_call 184; refine (HN.out _).mono ?_; rintro e w1 ⟨rfl, be⟩; have sz1 : Hid (W1.heap.size ≤ w1.heap.size) := bel_size (below_next (And.left (by assumption)) be); (try have z1 := hide (zero_kept_drew be)); (try have y1 := hide (zero_kept2_drew be))) | (go_at_call 183; refine (HD.out _).mono ?_; rintro e w2 ⟨rfl, be⟩; have sz2 : Hid (W1.heap.size ≤ w2.heap.size) := bel_size (below_next (And.left (by assumption)) be); (first | have TW := tw (row_kept y1.out.1 be) (row_kept y1.out.2 be) (Nat.lt_succ_self _) Q R | have TW := tw (zero_kept2 be).1 (zero_kept2 be).2 (Nat.lt_succ_self _) Q R | have TW := tw (row_kept z1.out (below_next (below_allocZ _ _) be)) (zero_kept be) (lt_heap z1.out) Q R | have TW := tw_one (zero_kept be) Q R | have TW := tw_one (row_kept z1.out be) Q R | have TW := tw_two w2 Q R); have p1 := TW.p1; have p2 := TW.p2; have p3 := TW.p3; have p4 := TW.p4; have HTW := hide TW; clear TW))
    all_goals (go_wp2_with fail; go_meet; first | exact ⟨_, _, rfl, rfl, rfl, (J2.out.next (And.left (by assumption))).cons HTW.out.e1.1⟩ | exact ⟨_, _, rfl, rfl, rfl, (J2.out.next (And.left (by assumption))).cons HTW.out.e2.1⟩)
  obtain ⟨g5, g6, rfl, rfl, rfl, J2⟩ := hcut
  have rQ := hide (J2.out.at (g := g5) (t := 51) (n := Q) (by simp))
  clear J1 rT rD HN HD HA
  generalize wc = W2 at *
  go_upto_region 3 with fail
  go_cut [8, 9] from 24 to 29 (fun s8 s9 wx => ∃ g8, s8 = .pointer (some ⟨g8, 0, none⟩) ∧ s9 = .bool o2 ∧ Hid (Rs w wx [(g8, 51, V), (g5, 51, Q), (w.heap.size + 1, 51, 0), (w.heap.size, 51, T)]))
  case first =>
    go_region_held3 (fun w' => Below W2.heap.size W2 w' ∧ (ldW (.pointer (some ⟨g5, 0, none⟩))).run Tryz.prog w' = .ok (.agg (wn Q)) w') (first | exact (fun hb => ⟨hb, ldB rQ.out hb⟩) ((Below.refl _ _).drew) | exact (fun hb => ⟨hb, ldB rQ.out hb⟩) (below_next (And.left (by assumption)) be) | exact (fun hb => ⟨hb, ldB rQ.out hb⟩) (bel_alloc (And.left (by assumption)) _) | exact (fun hb => ⟨hb, ldB rQ.out hb⟩) (bel_put (And.left (by assumption)) (by first | exact Nat.le_refl _ | exact sz1.out | exact sz2.out) _)) (first | (go_at_call 182; refine (HF.out _).mono ?_; rintro e w1 ⟨rfl, be⟩; have sz1 : Hid (W2.heap.size ≤ w1.heap.size) := bel_size (below_next (And.left (by assumption)) be); (try have z1 := hide (zero_kept_drew be)); (try have z1 := hide (zero_kept be))) | (go_at_call 181; refine (HA2.out _).mono ?_; rintro e w2 ⟨rfl, be⟩; have sz2 : Hid (W2.heap.size ≤ w2.heap.size) := bel_size (below_next (And.left (by assumption)) be); (try have z2 := hide (row_kept z1.out be)); (try have z2 := hide (zero_kept be)); (first | have s1 := svW_row z2.out V | have s1 := svW_new w2 V)))
    all_goals (go_wp2_with fail; go_meet; first | exact ⟨_, rfl, rfl, (J2.out.next (And.left (by assumption))).cons (row_new _ _)⟩ | exact ⟨_, rfl, rfl, (J2.out.next (And.left (by assumption))).cons (setRow_heap _ _ _ _ _ _ z2.out)⟩)
  obtain ⟨g8, rfl, rfl, J3⟩ := hcut
  have rV := hide (J3.out.at (g := g8) (t := 51) (n := V) (by simp))
  have rr := hide (J3.out.at (g := w.heap.size + 1) (t := 51) (n := 0) (by simp))
  go_wp2_with (first | refine wpList_loadA AW rfl _ rfl g8 rfl (wn V) (wn_size _) 51 rV.out ?_ | refine wpList_storeA AW rfl _ _ rfl _ (wn V) (wn_size _) (wn_one _) rfl rfl (wn 0) (wn_size 0) 51 rr.out ?_)
  exact bodyPost_ret (v := .agg (wn V)) (resA AW Tryz.results110 _ _ (w.heap.size + 1) 51 (wn V) (wn_size _) rfl (setRow_heap _ _ _ _ _ _ rr.out)) rfl ⟨rfl, below_setRow J3.out.bel (by omega) _⟩
theorem work_yes (b : Nat) (hb : b < 4294967296) (h : okB b = true) (w : World) : Calls Tryz.prog 47 #[.int .u32 (b : Int)] w fun e w' => e = .returned (.tuple #[.agg (wn ((M - 1 - tgt b) / (tgt b + 1) + 1)), .int .i64 0]) ∧ Below w.heap.size w w' := by
  have HE := hide fun W => expand_yes b hb h W
  have hT : tgt b ≤ Lm := by
    unfold okB at h
    simp only [Bool.and_eq_true, decide_eq_true_eq] at h
    exact h.2
  have HS := hide fun W => share_any (tgt b) hT W
  have J0 := hide (Rs.start1 w 51 0)
  generalize (M - 1 - tgt b) / (tgt b + 1) + 1 = V at *
  generalize tgt b = T at *
  clear hb h hT
  go_enter Tryz.func47, Tryz.ntmps47
  go_upto_region 1 with (refine wpList_allocA AW rfl rfl ?_)
  generalize w.alloc (.cells (wn 0) 51) = W0 at *
  go_upto_region 2 with (first | (go_at_call 109; refine (HE.out _).mono ?_; rintro e w1 ⟨rfl, be⟩; have J1 := hide ((J0.out.next be).new 51 T); clear be) | refine wpList_allocA AW rfl rfl ?_ | refine wpList_store_newA AW rfl _ _ rfl _ rfl (wn T) (wn_size _) (wn_one _) rfl rfl ?_)
  generalize w1.alloc (.cells (wn T) 51) = W1 at *
  generalize w1.heap.size = g4 at *
  have rT := hide (J1.out.at (g := g4) (t := 51) (n := T) (by simp))
  go_wp2_with (first | refine wpList_loadA AW rfl _ rfl g4 rfl (wn T) (wn_size _) 51 rT.out ?_ | (go_at_call 110; refine (HS.out _).mono ?_; rintro e w2 ⟨rfl, be⟩; have J2 := hide (J1.out.next be); have rr := hide (J2.out.at (g := w.heap.size) (t := 51) (n := 0) (by simp)); clear be) | refine wpList_storeA AW rfl _ _ rfl _ (wn V) (wn_size _) (wn_one _) rfl rfl (wn 0) (wn_size 0) 51 rr.out ?_)
  exact bodyPost_ret (v := .tuple #[.agg (wn V), .int .i64 0]) (resA2 AW Tryz.results47 _ _ w.heap.size 51 (wn V) (wn_size _) rfl (setRow_heap _ _ _ _ _ _ rr.out) _ (by rfl)) rfl ⟨rfl, below_setRow J2.out.bel (Nat.le_refl _) _⟩
end
section
set_option maxRecDepth 10000
set_option maxHeartbeats 2000000
end
theorem hszU (w : World) (o : Obj) : (w.alloc o).heap.size = w.heap.size + 1 := by simp
theorem put_byte (x b i : Nat) (hx : x < 256 ^ i) (hb : b < 256) : b * 2 ^ (8 * (i % 8)) < 18446744073709551616 ∧ wd x (i / 8) ||| b * 2 ^ (8 * (i % 8)) = wd (x + b * 256 ^ i) (i / 8) ∧ ∀ j, j ≠ i / 8 → wd (x + b * 256 ^ i) j = wd x j := by
  have hp : 256 ^ i = 2 ^ (8 * i) := by rw [Nat.pow_mul]
  rw [hp] at hx ⊢
  have e : x + b * 2 ^ (8 * i) = b * 2 ^ (8 * i) ||| x := by
    rw [Nat.mul_comm, ← Nat.two_pow_add_eq_or_of_lt hx, Nat.add_comm]
  have hbt : ∀ n, 8 ≤ n → b.testBit n = false := fun n hn => Nat.testBit_lt_two_pow (Nat.lt_of_lt_of_le hb (show 256 ≤ 2 ^ n from Nat.pow_le_pow_right (n := 2) (i := 8) (j := n) (by decide) hn))
  refine ⟨?_, ?_, fun j hj => ?_⟩
  · have h1 : b * 2 ^ (8 * (i % 8)) < 2 ^ 8 * 2 ^ (8 * (i % 8)) := Nat.mul_lt_mul_of_pos_right hb (Nat.two_pow_pos _)
    have h2 : 2 ^ 8 * 2 ^ (8 * (i % 8)) ≤ 2 ^ 64 := by
      rw [← Nat.pow_add]
      exact Nat.pow_le_pow_right (by decide) (by omega)
    omega
  · apply word_ext
    intro t
    rw [e, wd_bit, Nat.testBit_or, Nat.testBit_or, wd_bit, Nat.testBit_mul_two_pow, Nat.testBit_mul_two_pow]
    by_cases ht : t < 64
    · rw [show (decide (8 * i ≤ 64 * (i / 8) + t)) = decide (8 * (i % 8) ≤ t) by rw [Bool.eq_iff_iff]; simp; omega]
      by_cases h8 : 8 * (i % 8) ≤ t
      · rw [show 64 * (i / 8) + t - 8 * i = t - 8 * (i % 8) by omega]
        simp [ht, Bool.or_comm]
      · simp [ht, h8]
    · rw [hbt (t - 8 * (i % 8)) (by omega)]
      simp [ht]
  · apply word_ext
    intro t
    rw [e, wd_bit, wd_bit, Nat.testBit_or, Nat.testBit_mul_two_pow]
    by_cases ht : t < 64
    · by_cases h8 : 8 * i ≤ 64 * j + t
      · rw [hbt (64 * j + t - 8 * i) (by omega)]
        simp
      · simp [h8]
    · simp [ht]
theorem run_indexH (l : List UInt8) (i : Nat) (h : i < l.length) (hl : l.length = 32) (w : World) : (Instr.index 46 (.agg (hc l)) (.int .i64 (i : Int))).run Tryz.prog w = .ok (.int .u8 ((by8 l i : Nat) : Int)) w := by
  have hp : (Go.part 5 (hc l) (i * 1)).run Tryz.prog w = .ok (.int .u8 ((by8 l i : Nat) : Int)) w := by
    simp [Go.part, isAgg, run_underlying Tryz.underlying5, hc_at l i h]
  rw [Nat.mul_one] at hp
  have h32 : i < 32 := by omega
  simp [Instr.index, asIntOf, run_underlying Tryz.underlying46, h32, hp]
theorem wpList_indexH {w : World} {ops : Array Oper} {rest : List Oper} {o : Oper} {a : Act} {Q : Exit → Act → World → Prop} (hgd : o.guard = none) (x y : Operand) (ho : o.op = .index 46 x y) (l : List UInt8) (hl : l.length = 32) (i : Nat) (hx : a.eval x = .agg (hc l)) (hy : a.eval y = .int .i64 (i : Int)) (hi : i < l.length)
    (h : wpList Tryz.prog ops Q rest (a.put o.dst (.int .u8 ((by8 l i : Nat) : Int))) w) : wpList Tryz.prog ops Q (o :: rest) a w := by
  refine wpList_plain hgd fun K hK => ?_
  unfold Oper.wp execOp
  simp only [ho, hx, hy, run_indexH l i hi hl w, Sem.run_bind, Result.andThen_ok, Sem.run_pure]
  exact hK _ _ h
structure Ow (w W : World) (l : List UInt8) (x : Nat) : Prop where
  a : W.heap[w.heap.size]? = some (.cells (hc l) 46 (0, 0))
  r : W.heap[w.heap.size + 1]? = some (.cells (wn 0) 51 (0, 0))
  o : Nd W (w.heap.size + 1 + 1) 51 4 (wd x)
  bel : Below w.heap.size w W
theorem Ow.start (w : World) (l : List UInt8) : Ow w (((w.alloc (.cells (hc l) 46)).alloc (.cells (wn 0) 51)).alloc (.cells (wn 0) 51)) l 0 := by
  obtain ⟨e1, e2, e3⟩ := blk3 w (.cells (hc l) 46) (.cells (wn 0) 51) (.cells (wn 0) 51)
  exact ⟨e1, e2, Nd.of_heap e3, below3 w _ _ _⟩
theorem Ow.set {w W : World} {l : List UInt8} {x : Nat} (j : Ow w W l x) (i v y : Nat) (e : ∀ k, (if k = i then v else wd x k) = wd y k) : Ow w (W.setCell ⟨w.heap.size + 1 + 1, i, none⟩ (.int .u64 ((v : Nat) : Int))) l y :=
  ⟨(Below.heap_setCell _ _ _ _ (by simp <;> omega)).trans j.a, (Below.heap_setCell _ _ _ _ (by simp <;> omega)).trans j.r, (j.o.set i v).congr (fun k _ => e k), j.bel.setCell (by simp <;> omega) _⟩
theorem Ow.drew {w W : World} {l : List UInt8} {x : Nat} (j : Ow w W l x) : Ow w W.drew l x := ⟨j.a, j.r, j.o, j.bel.drew⟩
section
set_option maxRecDepth 10000
set_option maxHeartbeats 2000000
theorem ofW_any (l : List UInt8) (hl : l.length = 32) (w : World) : Calls Tryz.prog 193 #[.agg (hc l)] w fun e w' => e = .returned (.agg (wn (vs 256 (by8 l) 32))) ∧ Below w.heap.size w w' := by
  have J0 : Hid (Ow w (((w.alloc (.cells (hc l) 46)).alloc (.cells (wn 0) 51)).alloc (.cells (wn 0) 51)) l (vs 256 (by8 l) 0)) := Ow.start w l
  have a0 := hide J0.out.a
  have HL := hide hl
  have hcs : (hc l).size = 32 := by rw [hc_size]; exact hl
  have HCS := hide hcs
  clear hl hcs
  go_enter Tryz.func193, Tryz.ntmps193
  go_upto_region 2 with (first | refine wpList_boxA rfl _ rfl (hc l) rfl ?_ | refine wpList_allocA AW rfl rfl ?_)
  try simp only [Act.put, List.setIfInBounds_toArray, List.set_cons_succ, List.set_cons_zero, hszU]
  generalize ((w.alloc (.cells (hc l) 46)).alloc (.cells (wn 0) 51)).alloc (.cells (wn 0) 51) = W0 at *
  go_wp2_with (refine wpList_loadA A25 rfl _ rfl _ rfl (hc l) HCS.out 46 a0.out ?_)
  go_loopw [4, 5, 7] (fun _ _ d wr => ∃ i : Nat, i ≤ 32 ∧ d = .int .i64 i ∧ Hid (Ow w wr l (vs 256 (by8 l) i))) (fun _ _ d _ => (32 - intOf d).toNat)
  case atStart => exact ⟨0, by omega, rfl, J0⟩
  case round =>
    clear J0 a0
    obtain ⟨i, hi, rfl, J⟩ := hrel
    by_cases hlt : i < 32
    · have hi4 : (i : Int) < 32 := by omega
      have i0 : (0 : Int) ≤ i := by omega
      obtain ⟨p1, p2, p3⟩ := put_byte (vs 256 (by8 l) i) (by8 l i) i (vs_lt (fun k _ => by8_lt l k)) (by8_lt l i)
      have hor := u64_or_nat (wd (vs 256 (by8 l) i) (i / 8)) (by8 l i * 2 ^ (8 * (i % 8))) (wd_lt _ _) p1
      rw [p2] at hor
      have hsh := shl_word (by8 l i) (8 * (i % 8))
      rw [Nat.mod_eq_of_lt p1] at hsh
      have hb := by8_lt l i
      have hw : IntKind.u64.wrap ((by8 l i : Nat) : Int) = ((by8 l i : Nat) : Int) := wrapu _ (by omega) (by omega)
      have d1 : (i : Int) / 8 = ((i / 8 : Nat) : Int) := by omega
      have d2 : (i : Int) % 8 = ((i % 8 : Nat) : Int) := by omega
      have c1 : IntKind.i64.wrap (8 * ((i % 8 : Nat) : Int)) = ((8 * (i % 8) : Nat) : Int) := by rw [wrapI _ (by omega) (by omega)]; omega
      have q4 : ((i / 8 : Nat) : Int) < 4 := by omega
      have q0 : (0 : Int) ≤ ((i / 8 : Nat) : Int) := by omega
      have r6 : ((8 * (i % 8) : Nat) : Int) ≤ 64 := by omega
      have r0 : (0 : Int) ≤ ((8 * (i % 8) : Nat) : Int) := by omega
      have hiw : IntKind.i64.wrap ((i : Int) + 1) = i + 1 := wrapI _ (by omega) (by omega)
      have Q4 := hide (show i / 8 < 4 by omega)
      have HN : Hid (∀ k, (if k = i / 8 then wd (vs 256 (by8 l) i + by8 l i * 256 ^ i) (i / 8) else wd (vs 256 (by8 l) i) k) = wd (vs 256 (by8 l) (i + 1)) k) := fun k => by
        show _ = wd (vs 256 (by8 l) i + by8 l i * 256 ^ i) k
        split
        · rename_i h
          rw [h]
        · rename_i h
          exact (p3 k h).symm
      have LL := hide hlt
      have LI := hide (show i < l.length by rw [HL.out]; exact hlt)
      clear hlt hi hb p1 p2 p3
      generalize hY : vs 256 (by8 l) (i + 1) = Y at *
      have HY := hide hY
      clear hY
      generalize hV : wd (vs 256 (by8 l) i + by8 l i * 256 ^ i) (i / 8) = V at *
      clear hV
      generalize vs 256 (by8 l) i = X at *
      generalize by8 l i * 2 ^ (8 * (i % 8)) = bs at *
      generalize 8 * (i % 8) = r at *
      generalize i % 8 = e at *
      generalize hq : i / 8 = q at *
      clear hq
      go_upto_region 5 with (refine wpList_indexH rfl _ _ rfl l HL.out i rfl rfl LI.out ?_)
      have cq := J.out.o.cell Q4.out
      have fq := J.out.o.fz q
      go_region
      go_wp2
      have L4 := LL.out
      exact ⟨⟨i + 1, by omega, by go_num, by rw [HY.out]; exact hide ((J.out.set q V Y HN.out).drew)⟩, by simp [intOf]; omega⟩
    · have hke : i = 32 := by omega
      subst hke
      have H2 := J.out.o.heap
      go_wp2_with (first | refine wpList_loadA AW rfl _ rfl _ rfl (wn (vs 256 (by8 l) 32)) (wn_size _) 51 H2 ?_ | refine wpList_storeA AW rfl _ _ rfl _ (wn (vs 256 (by8 l) 32)) (wn_size _) (wn_one _) rfl rfl (wn 0) (wn_size 0) 51 J.out.r ?_)
      exact bodyPost_ret (v := .agg (wn (vs 256 (by8 l) 32))) (resA AW Tryz.results193 _ _ (w.heap.size + 1) 51 (wn (vs 256 (by8 l) 32)) (wn_size _) rfl (setRow_heap _ _ _ _ _ _ J.out.r)) rfl ⟨rfl, below_setRow J.out.bel (by omega) _⟩
end
theorem hv_eq (l : List UInt8) : hv l = vs 256 (by8 l) 32 := by unfold hv; rfl
def mt (l : List UInt8) (b : Nat) : Bool := okB b && decide (hv l ≤ tgt b)
theorem cmp_leB (a b : Nat) : (cmpZ a b ≤ 0) = (a ≤ b) := by
  apply propext
  unfold cmpZ
  split
  · simp; omega
  · split <;> simp <;> omega
section
set_option maxRecDepth 10000
set_option maxHeartbeats 2000000
theorem meets_any (l : List UInt8) (hl : l.length = 32) (b : Nat) (hb : b < 4294967296) (w : World) : Calls Tryz.prog 118 #[.agg (hc l), .int .u32 (b : Int)] w fun e w' => e = .returned (.bool (mt l b)) ∧ Below w.heap.size w w' := by
  have HE := hide fun W => expand_any b hb W
  have HO : Hid (∀ W, Calls Tryz.prog 193 #[.agg (hc l)] W fun e w' => e = .returned (.agg (wn (hv l))) ∧ Below W.heap.size W w') := fun W => by
    have := ofW_any l hl W
    rw [← hv_eq] at this
    exact this
  have hX : xt b < M := Nat.lt_of_le_of_lt (xt_le b) Lm_M
  have HC := hide fun W => compare_any _ _ (hv_lt l) hX W
  have J0 := hide (Rc.start1 w 46 (hc l))
  have hcs := hide (show (hc l).size = 32 by rw [hc_size]; exact hl)
  have hm : mt l b = (okB b && decide (cmpZ (hv l) (xt b) ≤ 0)) := by
    unfold mt xt
    cases okB b
    · rw [Bool.false_and, Bool.false_and]
    · simp only [cmp_leB, if_true]
  rw [hm]
  generalize hv l = V at *
  generalize xt b = X at *
  generalize cmpZ V X = z at *
  clear hm hX hl hb
  generalize okB b = ok at *
  cases ok
  · try simp only [Bool.false_eq_true, if_false] at HE
    go_enter Tryz.func118, Tryz.ntmps118
    go_upto_region 1 with (refine wpList_boxA rfl _ rfl (hc l) rfl ?_)
    generalize w.alloc (.cells (hc l) 46) = W0 at *
    go_upto_region 2 with (first | (go_at_call 109; refine (HE.out _).mono ?_; rintro e w1 ⟨rfl, be⟩; have J1 := hide ((J0.out.next be).new 51 (wn X)); clear be) | refine wpList_allocA AW rfl rfl ?_ | refine wpList_store_newA AW rfl _ _ rfl _ rfl (wn X) (wn_size _) (wn_one _) rfl rfl ?_)
    generalize w1.alloc (.cells (wn X) 51) = W1 at *
    generalize w1.heap.size = g5 at *
    obtain ⟨I, hne, F, i0, h0, hJ, hcl⟩ := J1.out.cls
    refine wp_region_class_lit (by kernel_rfl) (by kernel_rfl) i0 h0 ?_
    repeat (go_big_quiet_step (fail))
    refine wpQuiet_nil ?_
    rintro _ ⟨iq, rfl⟩
    go_wp2
    go_ret
    exact ⟨rfl, (hJ.out iq).bel⟩
  · try simp only [if_true] at HE
    have hzd : ∃ v, decide (z ≤ 0) = v := ⟨_, rfl⟩
    obtain ⟨v, hv⟩ := hzd
    rw [hv]
    go_enter Tryz.func118, Tryz.ntmps118
    go_upto_region 1 with (refine wpList_boxA rfl _ rfl (hc l) rfl ?_)
    generalize w.alloc (.cells (hc l) 46) = W0 at *
    go_upto_region 2 with (first | (go_at_call 109; refine (HE.out _).mono ?_; rintro e w1 ⟨rfl, be⟩; have J1 := hide ((J0.out.next be).new 51 (wn X)); clear be) | refine wpList_allocA AW rfl rfl ?_ | refine wpList_store_newA AW rfl _ _ rfl _ rfl (wn X) (wn_size _) (wn_one _) rfl rfl ?_)
    generalize w1.alloc (.cells (wn X) 51) = W1 at *
    generalize w1.heap.size = g5 at *
    obtain ⟨I, hne, F, i0, h0, hJ, hcl⟩ := J1.out.cls
    refine wp_region_class_lit (by kernel_rfl) (by kernel_rfl) i0 h0 ?_
    repeat (first | ((go_big_quiet_want; first | refine quiet_loadA AW _ (by rfl) g5 (by rfl) (wn X) (wn_size _) 51 (Rc.of hJ (by simp)) ?_ | refine quiet_loadA A25 _ (by rfl) w.heap.size (by rfl) (hc l) hcs.out 46 (Rc.of hJ (by simp)) ?_); go_big_quiet_on; simp only [Act.put, List.setIfInBounds_toArray, List.set_cons_succ, List.set_cons_zero]) | go_big_quiet_step (first | (go_at_call 193; exact class_of hcl.out (HO.out _)) | (go_at_call 179; exact class_of hcl.out (HC.out _))))
    refine wpQuiet_nil ?_
    rintro _ ⟨iq, rfl⟩
    go_wp2
    go_ret
    exact ⟨rfl, (hJ.out iq).bel⟩
end
end Go.Proofs.YtcoojkpimbddlaaGreatDoor
