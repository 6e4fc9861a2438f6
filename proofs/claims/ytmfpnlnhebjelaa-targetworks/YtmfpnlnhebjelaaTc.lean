/- The contracts of target.share and target.Work. -/
import Derived.Test.YtmfpnlnhebjelaaTb
import Derived.Test.YtmfpnlnhebjelaaZs
namespace Go.Proofs.Ytmfpnlnhebjelaa
open Go.RowKit
open Go.Deep
attribute [local go_sem ↓] ldW_eq svW_eq
section
set_option maxRecDepth 10000
set_option maxHeartbeats 4000000
theorem share_any (T : Nat) (hT : T ≤ Lm) (w : World) : Calls Try.prog 50 #[.agg (wn T)] w fun e w' => e = .returned (.agg (wn ((M - 1 - T) / (T + 1) + 1))) ∧ Below w.heap.size w w' := by
  have hL : Lm + 1 < M := by decide +kernel
  have HF : Hid (∀ W, Calls Try.prog 14 #[.int .u64 1] W fun e w' => e = .returned (.agg (wn 1)) ∧ Below W.heap.size W w') := fun W => from_any 1 (by decide) W
  have HA := hide fun W => wadd_any T 1 (by omega) (by decide) W
  have HN := hide fun W => not_any T (by omega) W
  have HD := hide fun W => div_any (M - 1 - T) (T + 1) (by omega) (by omega) (by omega) W
  have hQ : (M - 1 - T) / (T + 1) < M := Nat.lt_of_le_of_lt (Nat.div_le_self _ _) (by omega)
  have HA2 := hide fun W => wadd_any ((M - 1 - T) / (T + 1)) 1 hQ (by decide) W
  have J0 : Hid (Rs w ((w.alloc (.cells (wn T) 24)).alloc (.cells (wn 0) 24)) [(w.heap.size + 1, 24, 0), (w.heap.size, 24, T)]) := Rs.start2 w 24 T 0
  generalize decide (M ≤ T + 1) = o1 at *
  generalize decide (M ≤ (M - 1 - T) / (T + 1) + 1) = o2 at *
  generalize (M - 1 - T) / (T + 1) + 1 = V at *
  generalize (M - 1 - T) / (T + 1) = Q at *
  generalize (M - 1 - T) % (T + 1) = R at *
  generalize M - 1 - T = U at *
  generalize T + 1 = D at *
  clear hT hL hQ
  go_enter Try.func50, Try.ntmps50
  go_upto_region 1 with (first | refine wpList_boxA rfl _ rfl (wn T) rfl ?_ | refine wpList_allocA AW rfl rfl ?_)
  generalize (w.alloc (.cells (wn T) 24)).alloc (.cells (wn 0) 24) = W0 at *
  try simp only [Act.put, List.setIfInBounds_toArray, List.set_cons_succ, List.set_cons_zero, hsz]
  have rT := hide (J0.out.at (g := w.heap.size) (t := 24) (n := T) (by simp))
  go_cut [3, 4] from 10 to 15 (fun s3 s4 wx => ∃ g, s3 = .pointer (some ⟨g, 0, none⟩) ∧ s4 = .bool o1 ∧ Hid (Rs w wx [(g, 24, D), (w.heap.size + 1, 24, 0), (w.heap.size, 24, T)]))
  case first =>
    have l0 := ldB (Y := W0.drew) rT.out (Below.refl _ _).drew
    go_region_held3 (fun w' => Below W0.heap.size W0 w' ∧ (ldW (.pointer (some ⟨w.heap.size, 0, none⟩))).run Try.prog w' = .ok (.agg (wn T)) w') (first | exact ⟨(Below.refl _ _).drew, ldB rT.out (Below.refl _ _).drew⟩ | exact (fun hb => ⟨hb, ldB rT.out hb⟩) (below_next (And.left (by assumption)) be) | exact (fun hb => ⟨hb, ldB rT.out hb⟩) (bel_alloc (And.left (by assumption)) _) | exact (fun hb => ⟨hb, ldB rT.out hb⟩) (bel_put (And.left (by assumption)) (by first | exact Nat.le_refl _ | exact sz1.out | exact sz2.out) _)) (first | (go_at_call 14; refine (HF.out _).mono ?_; rintro e w1 ⟨rfl, be⟩; have sz1 : Hid (W0.heap.size ≤ w1.heap.size) := bel_size (below_next (And.left (by assumption)) be); (try have z1 := hide (zero_kept_drew be)); (try have z1 := hide (zero_kept be))) | (go_at_call 36; refine (HA.out _).mono ?_; rintro e w2 ⟨rfl, be⟩; have sz2 : Hid (W0.heap.size ≤ w2.heap.size) := bel_size (below_next (And.left (by assumption)) be); (try have z2 := hide (row_kept z1.out be)); (try have z2 := hide (zero_kept be)); (first | have s1 := svW_row z2.out D | have s1 := svW_new w2 D)))
    all_goals (go_wp2_with fail; go_meet; first | exact ⟨_, rfl, rfl, (J0.out.next (And.left (by assumption))).cons (row_new _ _)⟩ | exact ⟨_, rfl, rfl, (J0.out.next (And.left (by assumption))).cons (setRow_heap _ _ _ _ _ _ z2.out)⟩)
  obtain ⟨g, rfl, rfl, J1⟩ := hcut
  have rT := hide (J1.out.at (g := w.heap.size) (t := 24) (n := T) (by simp))
  have rD := hide (J1.out.at (g := g) (t := 24) (n := D) (by simp))
  clear J0
  generalize wc = W1 at *
  go_upto_region 2 with fail
  go_cut [5, 6, 7] from 16 to 23 (fun s5 s6 s7 wx => ∃ g5 g6, s5 = .pointer (some ⟨g5, 0, none⟩) ∧ s6 = .pointer (some ⟨g6, 0, none⟩) ∧ s7 = .int .i64 0 ∧ Hid (Rs w wx [(g5, 24, Q), (w.heap.size + 1, 24, 0), (w.heap.size, 24, T)]))
  case first =>
    have J2 : Hid (Rs w W1 [(w.heap.size + 1, 24, 0), (w.heap.size, 24, T)]) := ⟨fun p hp => J1.out.row p (List.mem_cons_of_mem _ hp), J1.out.bel⟩
    go_region_held3 (fun w' => Below W1.heap.size W1 w' ∧ (ldW (.pointer (some ⟨w.heap.size, 0, none⟩))).run Try.prog w' = .ok (.agg (wn T)) w' ∧ (ldW (.pointer (some ⟨g, 0, none⟩))).run Try.prog w' = .ok (.agg (wn D)) w') (first | exact (fun hb => ⟨hb, ldB rT.out hb, ldB rD.out hb⟩) ((Below.refl _ _).drew) | exact (fun hb => ⟨hb, ldB rT.out hb, ldB rD.out hb⟩) (below_next (And.left (by assumption)) be) | exact (fun hb => ⟨hb, ldB rT.out hb, ldB rD.out hb⟩) (bel_alloc (And.left (by assumption)) _) | exact (fun hb => ⟨hb, ldB rT.out hb, ldB rD.out hb⟩) (bel_put (And.left (by assumption)) (by first | exact Nat.le_refl _ | exact Nat.le_succ _ | exact sz1.out | exact sz2.out | exact Nat.le_succ_of_le sz1.out | exact Nat.le_succ_of_le sz2.out) _)) (first | (go_at_call 66; refine (HN.out _).mono ?_; rintro e w1 ⟨rfl, be⟩; have sz1 : Hid (W1.heap.size ≤ w1.heap.size) := bel_size (below_next (And.left (by assumption)) be); (try have z1 := hide (zero_kept_drew be)); (try have y1 := hide (zero_kept2_drew be))) | (go_at_call 37; refine (HD.out _).mono ?_; rintro e w2 ⟨rfl, be⟩; have sz2 : Hid (W1.heap.size ≤ w2.heap.size) := bel_size (below_next (And.left (by assumption)) be); (first | have TW := tw (row_kept y1.out.1 be) (row_kept y1.out.2 be) (Nat.lt_succ_self _) Q R | have TW := tw (zero_kept2 be).1 (zero_kept2 be).2 (Nat.lt_succ_self _) Q R | have TW := tw (row_kept z1.out (below_next (below_allocZ _ _) be)) (zero_kept be) (lt_heap z1.out) Q R | have TW := tw_one (zero_kept be) Q R | have TW := tw_one (row_kept z1.out be) Q R | have TW := tw_two w2 Q R); have p1 := TW.p1; have p2 := TW.p2; have p3 := TW.p3; have p4 := TW.p4; have HTW := hide TW; clear TW))
    all_goals (go_wp2_with fail; go_meet; first | exact ⟨_, _, rfl, rfl, rfl, (J2.out.next (And.left (by assumption))).cons HTW.out.e1.1⟩ | exact ⟨_, _, rfl, rfl, rfl, (J2.out.next (And.left (by assumption))).cons HTW.out.e2.1⟩)
  obtain ⟨g5, g6, rfl, rfl, rfl, J2⟩ := hcut
  have rQ := hide (J2.out.at (g := g5) (t := 24) (n := Q) (by simp))
  clear J1 rT rD HN HD HA
  generalize wc = W2 at *
  go_upto_region 3 with fail
  go_cut [8, 9] from 24 to 29 (fun s8 s9 wx => ∃ g8, s8 = .pointer (some ⟨g8, 0, none⟩) ∧ s9 = .bool o2 ∧ Hid (Rs w wx [(g8, 24, V), (g5, 24, Q), (w.heap.size + 1, 24, 0), (w.heap.size, 24, T)]))
  case first =>
    go_region_held3 (fun w' => Below W2.heap.size W2 w' ∧ (ldW (.pointer (some ⟨g5, 0, none⟩))).run Try.prog w' = .ok (.agg (wn Q)) w') (first | exact (fun hb => ⟨hb, ldB rQ.out hb⟩) ((Below.refl _ _).drew) | exact (fun hb => ⟨hb, ldB rQ.out hb⟩) (below_next (And.left (by assumption)) be) | exact (fun hb => ⟨hb, ldB rQ.out hb⟩) (bel_alloc (And.left (by assumption)) _) | exact (fun hb => ⟨hb, ldB rQ.out hb⟩) (bel_put (And.left (by assumption)) (by first | exact Nat.le_refl _ | exact sz1.out | exact sz2.out) _)) (first | (go_at_call 14; refine (HF.out _).mono ?_; rintro e w1 ⟨rfl, be⟩; have sz1 : Hid (W2.heap.size ≤ w1.heap.size) := bel_size (below_next (And.left (by assumption)) be); (try have z1 := hide (zero_kept_drew be)); (try have z1 := hide (zero_kept be))) | (go_at_call 36; refine (HA2.out _).mono ?_; rintro e w2 ⟨rfl, be⟩; have sz2 : Hid (W2.heap.size ≤ w2.heap.size) := bel_size (below_next (And.left (by assumption)) be); (try have z2 := hide (row_kept z1.out be)); (try have z2 := hide (zero_kept be)); (first | have s1 := svW_row z2.out V | have s1 := svW_new w2 V)))
    all_goals (go_wp2_with fail; go_meet; first | exact ⟨_, rfl, rfl, (J2.out.next (And.left (by assumption))).cons (row_new _ _)⟩ | exact ⟨_, rfl, rfl, (J2.out.next (And.left (by assumption))).cons (setRow_heap _ _ _ _ _ _ z2.out)⟩)
  obtain ⟨g8, rfl, rfl, J3⟩ := hcut
  have rV := hide (J3.out.at (g := g8) (t := 24) (n := V) (by simp))
  have rr := hide (J3.out.at (g := w.heap.size + 1) (t := 24) (n := 0) (by simp))
  go_wp2_with (first | refine wpList_loadA AW rfl _ rfl g8 rfl (wn V) (wn_size _) 24 rV.out ?_ | refine wpList_storeA AW rfl _ _ rfl _ (wn V) (wn_size _) (wn_one _) rfl rfl (wn 0) (wn_size 0) 24 rr.out ?_)
  exact bodyPost_ret (v := .agg (wn V)) (resA AW Try.results50 _ _ (w.heap.size + 1) 24 (wn V) (wn_size _) rfl (setRow_heap _ _ _ _ _ _ rr.out)) rfl ⟨rfl, below_setRow J3.out.bel (by omega) _⟩
/-- The work of a target. -/
theorem work_yes (b : Nat) (hb : b < 4294967296) (h : okB b = true) (w : World) : Calls Try.prog 32 #[.int .u32 (b : Int)] w fun e w' => e = .returned (.tuple #[.agg (wn ((M - 1 - tgt b) / (tgt b + 1) + 1)), .int .i64 0]) ∧ Below w.heap.size w w' := by
  have HE := hide fun W => expand_yes b hb h W
  have hT : tgt b ≤ Lm := by
    unfold okB at h
    simp only [Bool.and_eq_true, decide_eq_true_eq] at h
    exact h.2
  have HS := hide fun W => share_any (tgt b) hT W
  have J0 := hide (Rs.start1 w 24 0)
  generalize (M - 1 - tgt b) / (tgt b + 1) + 1 = V at *
  generalize tgt b = T at *
  clear hb h hT
  go_enter Try.func32, Try.ntmps32
  go_upto_region 1 with (refine wpList_allocA AW rfl rfl ?_)
  generalize w.alloc (.cells (wn 0) 24) = W0 at *
  go_upto_region 2 with (first | (go_at_call 18; refine (HE.out _).mono ?_; rintro e w1 ⟨rfl, be⟩; have J1 := hide ((J0.out.next be).new 24 T); clear be) | refine wpList_allocA AW rfl rfl ?_ | refine wpList_store_newA AW rfl _ _ rfl _ rfl (wn T) (wn_size _) (wn_one _) rfl rfl ?_)
  generalize w1.alloc (.cells (wn T) 24) = W1 at *
  generalize w1.heap.size = g4 at *
  have rT := hide (J1.out.at (g := g4) (t := 24) (n := T) (by simp))
  go_wp2_with (first | refine wpList_loadA AW rfl _ rfl g4 rfl (wn T) (wn_size _) 24 rT.out ?_ | (go_at_call 50; refine (HS.out _).mono ?_; rintro e w2 ⟨rfl, be⟩; have J2 := hide (J1.out.next be); have rr := hide (J2.out.at (g := w.heap.size) (t := 24) (n := 0) (by simp)); clear be) | refine wpList_storeA AW rfl _ _ rfl _ (wn V) (wn_size _) (wn_one _) rfl rfl (wn 0) (wn_size 0) 24 rr.out ?_)
  exact bodyPost_ret (v := .tuple #[.agg (wn V), .int .i64 0]) (resA2 AW Try.results32 _ _ w.heap.size 24 (wn V) (wn_size _) rfl (setRow_heap _ _ _ _ _ _ rr.out) _ (by rfl)) rfl ⟨rfl, below_setRow J2.out.bel (Nat.le_refl _) _⟩
theorem work_no (b : Nat) (hb : b < 4294967296) (h : okB b = false) (w : World) : Calls Try.prog 32 #[.int .u32 (b : Int)] w fun e w' => e = .returned (.tuple #[.agg (wn 0), .int .i64 50]) ∧ Below w.heap.size w w' := by
  have HE := hide fun W => expand_no b hb h W
  have J0 := hide (Rs.start1 w 24 0)
  clear hb h
  go_enter Try.func32, Try.ntmps32
  go_upto_region 1 with (refine wpList_allocA AW rfl rfl ?_)
  generalize w.alloc (.cells (wn 0) 24) = W0 at *
  go_upto_region 2 with (first | (go_at_call 18; refine (HE.out _).mono ?_; rintro e w1 ⟨rfl, be⟩; have J1 := hide ((J0.out.next be).new 24 0); clear be) | refine wpList_allocA AW rfl rfl ?_ | refine wpList_store_newA AW rfl _ _ rfl _ rfl (wn 0) (wn_size _) (wn_one _) rfl rfl ?_)
  generalize w1.alloc (.cells (wn 0) 24) = W1 at *
  generalize w1.heap.size = g4 at *
  have rr := hide (J1.out.at (g := w.heap.size) (t := 24) (n := 0) (by simp))
  go_wp2_with (first | refine wpList_buildA AW rfl rfl ?_ | refine wpList_storeA AW rfl _ _ rfl _ (wn 0) (wn_size _) (wn_one _) rfl rfl (wn 0) (wn_size 0) 24 rr.out ?_)
  exact bodyPost_ret (v := .tuple #[.agg (wn 0), .int .i64 50]) (resA2 AW Try.results32 _ _ w.heap.size 24 (wn 0) (wn_size _) rfl (setRow_heap _ _ _ _ _ _ rr.out) _ (by rfl)) rfl ⟨rfl, below_setRow J1.out.bel (Nat.le_refl _) _⟩
end
end Go.Proofs.Ytmfpnlnhebjelaa
