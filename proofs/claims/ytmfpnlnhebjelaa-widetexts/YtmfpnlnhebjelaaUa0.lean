/- The contract of wide.withDigit. -/
import Derived.Test.YtmfpnlnhebjelaaZs
import Derived.Test.YtmfpnlnhebjelaaWp
namespace Go.Proofs.Ytmfpnlnhebjelaa
open Go.RowKit
open Go.Deep
theorem digit_good (m d : Nat) : (!decide (M ≤ m * 10 % M + d) && decide (m * 10 / M = 0)) = decide (m * 10 + d < M) := by
  have h := Nat.div_add_mod (m * 10) M
  have hl := Nat.mod_lt (m * 10) M_pos
  generalize m * 10 = P at *
  generalize P % M = r at *
  rw [Bool.eq_iff_iff]
  simp only [Bool.and_eq_true, Bool.not_eq_true', decide_eq_false_iff_not, decide_eq_true_eq]
  constructor
  · rintro ⟨h1, h2⟩
    rw [h2, Nat.mul_zero] at h
    omega
  · intro h1
    have : P / M = 0 := Nat.div_eq_of_lt (by omega)
    rw [this, Nat.mul_zero] at h
    exact ⟨by omega, this⟩
attribute [local go_sem ↓] ldW_eq svW_eq
section
set_option maxRecDepth 10000
set_option maxHeartbeats 4000000
theorem digit_no (m b : Nat) (hb : b < 48 ∨ 57 < b) (w : World) : Calls Try.prog 42 #[.agg (wn m), .int .u8 (b : Int)] w fun e w' => e = .returned (.tuple #[.agg (wn 0), .bool false]) ∧ Below w.heap.size w w' := by
  have J0 : Hid (Rs w ((w.alloc (.cells (wn m) 24)).alloc (.cells (wn 0) 24)) [(w.heap.size + 1, 24, 0), (w.heap.size, 24, m)]) := Rs.start2 w 24 m 0
  rcases hb with hb | hb
  · have h1 : (b : Int) < 48 := by omega
    clear hb
    go_enter Try.func42, Try.ntmps42
    go_upto_region 1 with (first | refine wpList_boxA rfl _ rfl (wn m) rfl ?_ | refine wpList_allocA AW rfl rfl ?_)
    generalize (w.alloc (.cells (wn m) 24)).alloc (.cells (wn 0) 24) = W0 at *
    have rr := hide (J0.out.at (g := w.heap.size + 1) (t := 24) (n := 0) (by simp))
    go_wp2_with (first | refine wpList_buildA AW rfl rfl ?_ | refine wpList_storeA AW rfl _ _ rfl _ (wn 0) (wn_size _) (wn_one _) rfl rfl (wn 0) (wn_size 0) 24 rr.out ?_)
    exact bodyPost_ret (v := .tuple #[.agg (wn 0), .bool false]) (resA2 AW Try.results42 _ _ (w.heap.size + 1) 24 (wn 0) (wn_size _) rfl (setRow_heap _ _ _ _ _ _ rr.out) _ (by rfl)) rfl ⟨rfl, below_setRow J0.out.bel (by omega) _⟩
  · have h1 : ¬ (b : Int) < 48 := by omega
    have h2 : (57 : Int) < b := by omega
    clear hb
    go_enter Try.func42, Try.ntmps42
    go_upto_region 1 with (first | refine wpList_boxA rfl _ rfl (wn m) rfl ?_ | refine wpList_allocA AW rfl rfl ?_)
    generalize (w.alloc (.cells (wn m) 24)).alloc (.cells (wn 0) 24) = W0 at *
    have rr := hide (J0.out.at (g := w.heap.size + 1) (t := 24) (n := 0) (by simp))
    go_wp2_with (first | refine wpList_buildA AW rfl rfl ?_ | refine wpList_storeA AW rfl _ _ rfl _ (wn 0) (wn_size _) (wn_one _) rfl rfl (wn 0) (wn_size 0) 24 rr.out ?_)
    exact bodyPost_ret (v := .tuple #[.agg (wn 0), .bool false]) (resA2 AW Try.results42 _ _ (w.heap.size + 1) 24 (wn 0) (wn_size _) rfl (setRow_heap _ _ _ _ _ _ rr.out) _ (by rfl)) rfl ⟨rfl, below_setRow J0.out.bel (by omega) _⟩
theorem digit_yes (m b d : Nat) (hm : m < M) (hd : d < 10) (hb : b = 48 + d) (w : World) : Calls Try.prog 42 #[.agg (wn m), .int .u8 (b : Int)] w fun e w' => e = .returned (.tuple #[.agg (wn (m * 10 + d)), .bool (decide (m * 10 + d < M))]) ∧ Below w.heap.size w w' := by
  have J0 : Hid (Rs w ((w.alloc (.cells (wn m) 24)).alloc (.cells (wn 0) 24)) [(w.heap.size + 1, 24, 0), (w.heap.size, 24, m)]) := Rs.start2 w 24 m 0
  have HF : Hid (∀ W, Calls Try.prog 14 #[.int .u64 10] W fun e w' => e = .returned (.agg (wn 10)) ∧ Below W.heap.size W w') := fun W => from_any 10 (by decide) W
  have HP := hide fun W => mul_any m 10 hm (by decide) W
  rw [← wn_mod (m * 10)] at HP
  have HF2 := hide fun W => from_any d (by omega) W
  have hlow := Nat.mod_lt (m * 10) M_pos
  have hdM : d < M := Nat.lt_trans hd (by decide)
  have HA := hide fun W => wadd_any (m * 10 % M) d hlow hdM W
  rw [show wn (m * 10 % M + d) = wn (m * 10 + d) by rw [← wn_mod (m * 10 % M + d), Nat.mod_add_mod, wn_mod]] at HA
  have hH : m * 10 / M < M := by
    have h1 : m * 10 / M < 11 := Nat.div_lt_of_lt_mul (by omega)
    exact Nat.lt_trans h1 (by decide)
  have HZ := hide fun W => zero_any _ hH W
  have hg := digit_good m d
  have t1 : ¬ (b : Int) < 48 := by omega
  have t2 : ¬ (57 : Int) < b := by omega
  have t3 : IntKind.u8.wrap ((b : Int) - 48) = (d : Int) := by simp only [IntKind.wrap_u8]; omega
  have t4 : IntKind.u64.wrap (d : Int) = (d : Int) := wrapu _ (by omega) (by omega)
  rw [← hg]
  generalize decide (m * 10 / M = 0) = hz at *
  generalize decide (M ≤ m * 10 % M + d) = ov at *
  obtain ⟨H, hHe⟩ : ∃ H, H = m * 10 / M := ⟨_, rfl⟩
  rw [← hHe] at HP HZ
  obtain ⟨V, hVe⟩ : ∃ V, V = m * 10 + d := ⟨_, rfl⟩
  rw [← hVe] at HA ⊢
  obtain ⟨L, hLe⟩ : ∃ L, L = m * 10 % M := ⟨_, rfl⟩
  rw [← hLe] at HP HA
  clear hm hd hb hlow hdM hH hg hHe hVe hLe
  obtain ⟨res, hres⟩ : ∃ r, r = (!ov && hz) := ⟨_, rfl⟩
  rw [← hres]
  have HRes := hide hres
  clear hres
  go_enter Try.func42, Try.ntmps42
  go_upto_region 1 with (first | refine wpList_boxA rfl _ rfl (wn m) rfl ?_ | refine wpList_allocA AW rfl rfl ?_)
  generalize (w.alloc (.cells (wn m) 24)).alloc (.cells (wn 0) 24) = W0 at *
  go_upto_region 3 with fail
  have rm := hide (J0.out.at (g := w.heap.size) (t := 24) (n := m) (by simp))
  go_cut [6, 7] from 17 to 22 (fun s6 s7 wx => ∃ g6 g7, s6 = .pointer (some ⟨g6, 0, none⟩) ∧ s7 = .pointer (some ⟨g7, 0, none⟩) ∧ Hid (Rs w wx [(g6, 24, L), (g7, 24, H), (w.heap.size + 1, 24, 0), (w.heap.size, 24, m)]))
  case first =>
    go_region_held3 (fun w' => Below W0.heap.size W0 w' ∧ (ldW (.pointer (some ⟨w.heap.size, 0, none⟩))).run Try.prog w' = .ok (.agg (wn m)) w') (first | exact (fun hb => ⟨hb, ldB rm.out hb⟩) ((Below.refl _ _).drew) | exact (fun hb => ⟨hb, ldB rm.out hb⟩) (below_next (And.left (by assumption)) be) | exact (fun hb => ⟨hb, ldB rm.out hb⟩) (bel_alloc (And.left (by assumption)) _) | exact (fun hb => ⟨hb, ldB rm.out hb⟩) (bel_put (And.left (by assumption)) (by first | exact Nat.le_refl _ | exact Nat.le_succ _ | exact sz1.out | exact sz2.out | exact Nat.le_succ_of_le sz1.out | exact Nat.le_succ_of_le sz2.out) _)) (first | (go_at_call 14; refine (HF.out _).mono ?_; rintro e w1 ⟨rfl, be⟩; have sz1 : Hid (W0.heap.size ≤ w1.heap.size) := bel_size (below_next (And.left (by assumption)) be); (try have z1 := hide (zero_kept_drew be)); (try have y1 := hide (zero_kept2_drew be))) | (go_at_call 59; refine (HP.out _).mono ?_; rintro e w2 ⟨rfl, be⟩; have sz2 : Hid (W0.heap.size ≤ w2.heap.size) := bel_size (below_next (And.left (by assumption)) be); (first | have TW := tw (row_kept y1.out.1 be) (row_kept y1.out.2 be) (Nat.lt_succ_self _) L H | have TW := tw (zero_kept2 be).1 (zero_kept2 be).2 (Nat.lt_succ_self _) L H | have TW := tw (row_kept z1.out (below_next (below_allocZ _ _) be)) (zero_kept be) (lt_heap z1.out) L H | have TW := tw_one (zero_kept be) L H | have TW := tw_one (row_kept z1.out be) L H | have TW := tw_two w2 L H); have p1 := TW.p1; have p2 := TW.p2; have p3 := TW.p3; have p4 := TW.p4; have HTW := hide TW; clear TW))
    all_goals (go_wp2_with fail; go_meet; first | exact ⟨_, _, rfl, rfl, ((J0.out.next (And.left (by assumption))).cons HTW.out.e1.2).cons HTW.out.e1.1⟩ | exact ⟨_, _, rfl, rfl, ((J0.out.next (And.left (by assumption))).cons HTW.out.e2.2).cons HTW.out.e2.1⟩)
  obtain ⟨g6, g7, rfl, rfl, J1⟩ := hcut
  clear J0 rm HF HP
  generalize wc = W1 at *
  have rl := hide (J1.out.at (g := g6) (t := 24) (n := L) (by simp))
  go_upto_region 4 with fail
  go_cut [8, 9] from 23 to 31 (fun s8 s9 wx => ∃ g8, s8 = .pointer (some ⟨g8, 0, none⟩) ∧ s9 = .bool ov ∧ Hid (Rs w wx [(g8, 24, V), (g6, 24, L), (g7, 24, H), (w.heap.size + 1, 24, 0), (w.heap.size, 24, m)]))
  case first =>
    go_region_held3 (fun w' => Below W1.heap.size W1 w' ∧ (ldW (.pointer (some ⟨g6, 0, none⟩))).run Try.prog w' = .ok (.agg (wn L)) w') (first | exact (fun hb => ⟨hb, ldB rl.out hb⟩) ((Below.refl _ _).drew) | exact (fun hb => ⟨hb, ldB rl.out hb⟩) (below_next (And.left (by assumption)) be) | exact (fun hb => ⟨hb, ldB rl.out hb⟩) (bel_alloc (And.left (by assumption)) _) | exact (fun hb => ⟨hb, ldB rl.out hb⟩) (bel_put (And.left (by assumption)) (by first | exact Nat.le_refl _ | exact Nat.le_succ _ | exact sz1.out | exact sz2.out | exact Nat.le_succ_of_le sz1.out | exact Nat.le_succ_of_le sz2.out) _)) (first | (go_at_call 14; refine (HF2.out _).mono ?_; rintro e w1 ⟨rfl, be⟩; have sz1 : Hid (W1.heap.size ≤ w1.heap.size) := bel_size (below_next (And.left (by assumption)) be); (try have z1 := hide (zero_kept_drew be)); (try have z1 := hide (zero_kept be))) | (go_at_call 36; refine (HA.out _).mono ?_; rintro e w2 ⟨rfl, be⟩; have sz2 : Hid (W1.heap.size ≤ w2.heap.size) := bel_size (below_next (And.left (by assumption)) be); (try have z2 := hide (row_kept z1.out be)); (try have z2 := hide (zero_kept be)); (first | have s1 := svW_row z2.out V | have s1 := svW_new w2 V)))
    all_goals (go_wp2_with fail; go_meet; first | exact ⟨_, rfl, rfl, (J1.out.next (And.left (by assumption))).cons (row_new _ _)⟩ | exact ⟨_, rfl, rfl, (J1.out.next (And.left (by assumption))).cons (setRow_heap _ _ _ _ _ _ z2.out)⟩)
  obtain ⟨g8, rfl, rfl, J2⟩ := hcut
  clear J1 rl HF2 HA
  generalize wc = W2 at *
  have rv := hide (J2.out.at (g := g8) (t := 24) (n := V) (by simp))
  have rh := hide (J2.out.at (g := g7) (t := 24) (n := H) (by simp))
  have rr := hide (J2.out.at (g := w.heap.size + 1) (t := 24) (n := 0) (by simp))
  cases ov
  · rw [Bool.not_false, Bool.true_and] at HRes
    go_upto_region 5 with fail
    have l0 := ldW_row (W := W2.drew) rv.out
    have l1 := ldW_row (W := W2.drew) rh.out
    go_region_with (go_at_call 38; refine (HZ.out _).mono ?_; rintro e w3 ⟨rfl, be⟩; have J3 := hide (J2.out.drew.next be); have l2 := ldW_row (J3.out.at (g := g8) (t := 24) (n := V) (by simp)); have q3 := hide (J3.out.at (g := w.heap.size + 1) (t := 24) (n := 0) (by simp)); have s1 := svW_row q3.out V; clear be)
    all_goals (go_wp2; exact bodyPost_ret (v := .tuple #[.agg (wn V), .bool hz]) (resA2 AW Try.results42 _ _ (w.heap.size + 1) 24 (wn V) (wn_size _) rfl (setRow_heap _ _ _ _ _ _ q3.out) _ (by rfl)) rfl ⟨by rw [HRes.out], below_setRow J3.out.bel (by omega) _⟩)
  · rw [Bool.not_true, Bool.false_and] at HRes
    go_upto_region 5 with fail
    have l0 := ldW_row (W := W2.drew) rv.out
    have s1 := svW_row (w := W2.drew) rr.out V
    go_region
    go_wp2
    exact bodyPost_ret (v := .tuple #[.agg (wn V), .bool false]) (resA2 AW Try.results42 _ _ (w.heap.size + 1) 24 (wn V) (wn_size _) rfl (setRow_heap W2.drew _ _ _ _ _ rr.out) _ (by rfl)) rfl ⟨by rw [HRes.out], below_setRow J2.out.bel.drew (by omega) _⟩
end
end Go.Proofs.Ytmfpnlnhebjelaa
