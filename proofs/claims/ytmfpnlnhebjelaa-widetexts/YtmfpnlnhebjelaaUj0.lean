/- The contract of the document's Parse. -/
import Derived.Test.YtmfpnlnhebjelaaUd0
import Derived.Test.YtmfpnlnhebjelaaZc
namespace Go.Proofs.Ytmfpnlnhebjelaa
open Go.RowKit
open Go.Deep
def bdR (x : Value) : Sem Value := Instr.build 23 #[(0, x)]
theorem bdR_eq (x : Value) : Instr.build 23 #[(0, x)] = bdR x := rfl
theorem ldBR {W0 Y : World} {N T : Nat} {t : TypeId} (hN : W0.heap[N]? = some (.cells (wn T) t (0, 0))) (B : Below W0.heap.size W0 Y) : (ldR (.pointer (some ⟨N, 0, none⟩))).run Try.prog Y = .ok (.agg (wn T)) Y := ldR_row ((B.block _ (lt_heap hN)).trans hN)
theorem row_newR (W : World) (n : Nat) : ((W.alloc (.cells #[.int .u64 0, .int .u64 0, .int .u64 0, .int .u64 0] 23)).setRow W.heap.size (wn n)).heap[W.heap.size]? = some (.cells (wn n) 23 (0, 0)) := by
  rw [← zW_eq]
  exact setRow_heap _ _ _ _ _ _ (heap_alloc_last W _)
theorem zero_keptR_drew {W Y : World} (be : Below (W.alloc (.cells #[.int .u64 0, .int .u64 0, .int .u64 0, .int .u64 0] 23)).drew.heap.size (W.alloc (.cells #[.int .u64 0, .int .u64 0, .int .u64 0, .int .u64 0] 23)).drew Y) : Y.heap[W.heap.size]? = some (.cells (wn 0) 23 (0, 0)) :=
  (be.block _ (by simp)).trans (by rw [zW_eq]; exact heap_alloc_last W _)
theorem digit_bad (m d : Nat) : (decide (M ≤ m * 10 % M + d) || !decide (m * 10 / M = 0)) = !decide (m * 10 + d < M) := by
  rw [← digit_good]
  cases decide (M ≤ m * 10 % M + d) <;> cases decide (m * 10 / M = 0) <;> rfl
attribute [local go_sem ↓] ldR_eq svR_eq
attribute [-go_sem] Instr.build
attribute [local go_sem] bdR_eq
section
set_option maxRecDepth 10000
set_option maxHeartbeats 4000000
theorem rparse_any (s : ByteArray) (hs : s.size ≤ 9223372036854775807) (w : World) : Calls Try.prog 17 #[.string s] w fun e w' => ((∃ i, i < s.size ∧ (∀ j, j < i → okp s.data.toList j) ∧ ¬ okp s.data.toList i ∧ e = .returned (.tuple #[.agg (wn 0), .int .i64 (i : Int)])) ∨ (s.size = 0 ∧ e = .returned (.tuple #[.agg (wn 0), .int .i64 0])) ∨ (0 < s.size ∧ (∀ j, j < s.size → okp s.data.toList j) ∧ e = .returned (.tuple #[.agg (wn (pv s.data.toList s.size)), .int .i64 (-1)]))) ∧ Below w.heap.size w w' := by
  have J0 : Hid (Rs w ((w.alloc (.cells (wn 0) 23)).alloc (.cells (wn 0) 23)) [(w.heap.size + 1, 23, 0), (w.heap.size, 23, 0)]) := Rs.start2 w 23 0 0
  have HS := hide hs
  have B10 : Hid (∀ W, (Instr.build 23 #[(0, .int .u64 10)]).run Try.prog W = .ok (.agg (wn 10)) W) := fun W => run_buildR 10 (by decide) W
  clear hs
  go_enter Try.func17, Try.ntmps17
  go_wp2_with (first | refine wpList_allocA AR rfl rfl ?_ | refine wpList_buildA AR rfl rfl ?_ | refine wpList_store_newA AR rfl _ _ rfl _ rfl (wn 0) (wn_size _) (wn_one _) rfl rfl ?_)
  generalize (w.alloc (.cells (wn 0) 23)).alloc (.cells (wn 0) 23) = W0 at *
  go_loopw [5, 6, 7, 8, 9] (fun d _ _ _ _ wr => ∃ i : Nat, i ≤ s.size ∧ d = .int .i64 i ∧ Hid (Rs w wr [(w.heap.size + 1, 23, pv s.data.toList i), (w.heap.size, 23, 0)]) ∧ Hid (∀ j, j < i → okp s.data.toList j)) (fun d _ _ _ _ _ => (s.size - intOf d).toNat)
  case atStart => exact ⟨0, Nat.zero_le _, rfl, J0, fun j hj => by omega⟩
  case round =>
    clear J0
    obtain ⟨i, hi, rfl, J, O⟩ := hrel
    have hs := HS.out
    have r0 := hide (J.out.at (g := w.heap.size) (t := 23) (n := 0) (by simp))
    have rA := hide (J.out.at (g := w.heap.size + 1) (t := 23) (n := pv s.data.toList i) (by simp))
    by_cases hlt : i < s.size
    · have hi4 : (i : Int) < (s.size : Int) := by omega
      have i0 : (0 : Int) ≤ i := by omega
      have hb := by8_get s i hlt
      have hbl : s[i].toNat < 256 := s[i].toNat_lt
      have hA := pv_lt _ i O.out
      have IL := hide (And.intro hlt (show ((s.size : Int) - ((i + 1 : Nat) : Int)).toNat < ((s.size : Int) - (i : Int)).toNat by omega))
      have hiw : IntKind.i64.wrap ((i : Int) + 1) = i + 1 := wrapI _ (by omega) (by omega)
      by_cases hdg : 48 ≤ s[i].toNat ∧ s[i].toNat ≤ 57
      · have t1 : ¬ (s[i].toNat : Int) < 48 := by omega
        have t2 : ¬ (57 : Int) < (s[i].toNat : Int) := by omega
        by_cases hz0 : 0 < i ∧ pv s.data.toList i = 0
        · have z1 : (0 : Int) < (i : Int) := by omega
          have z2 : decide ((0 : Int) < (i : Int)) = true := by simp; omega
          have z3 : 0 < i := hz0.1
          have NO : Hid (¬ okp s.data.toList i) := fun h => by
            rcases h.2.2.2 with h | h
            · omega
            · exact h hz0.2
          have E0 := hide fun W => eqR 0 0 M_pos M_pos W
          rw [show decide (0 = 0) = true by decide] at E0
          rw [hz0.2] at rA
          clear hz0 hb hA hs hi hdg
          go_wp2_with (first | refine wpList_loadW AR rfl _ rfl (w.heap.size + 1) rfl (wn 0) (wn_size _) 23 rA.out ?_ | refine wpList_build0 AR rfl rfl ?_ | refine wpList_eql 23 _ _ _ rfl (wn 0) (wn 0) rfl rfl rfl eqgR true E0.out ?_ | refine wpList_buildA AR rfl rfl ?_ | refine wpList_storeA AR rfl _ _ rfl _ (wn 0) (wn_size _) (wn_one _) rfl rfl (wn 0) (wn_size 0) 23 r0.out ?_)
          exact bodyPost_ret (v := .tuple #[.agg (wn 0), .int .i64 (i : Int)]) (resA2 AR Try.results17 _ _ w.heap.size 23 (wn 0) (wn_size _) rfl (setRow_heap _ _ _ _ _ _ r0.out) _ (by rfl)) rfl ⟨.inl ⟨i, IL.out.1, O.out, NO.out, rfl⟩, below_setRow J.out.bel (Nat.le_refl _) _⟩
        · have HN : Hid (i = 0 ∨ pv s.data.toList i ≠ 0) := by
            rcases Nat.eq_zero_or_pos i with h | h
            · exact .inl h
            · exact .inr fun h2 => hz0 ⟨h, h2⟩
          obtain ⟨d, hd⟩ : ∃ d, s[i].toNat = 48 + d := ⟨s[i].toNat - 48, by omega⟩
          have hpv : pv s.data.toList (i + 1) = pv s.data.toList i * 10 + d := by
            show pv s.data.toList i * 10 + (by8 s.data.toList i - 48) = _
            rw [hb]
            omega
          have hlow := Nat.mod_lt (pv s.data.toList i * 10) M_pos
          have hdM : d < M := Nat.lt_trans (show d < 10 by omega) (by decide)
          have HP := hide fun W => rmul_any (pv s.data.toList i) 10 hA (by decide) W
          rw [← wn_mod (pv s.data.toList i * 10)] at HP
          have HA := hide fun W => radd_any (pv s.data.toList i * 10 % M) d hlow hdM W
          rw [show wn (pv s.data.toList i * 10 % M + d) = wn (pv s.data.toList i * 10 + d) by rw [← wn_mod (pv s.data.toList i * 10 % M + d), Nat.mod_add_mod, wn_mod]] at HA
          have hH : pv s.data.toList i * 10 / M < M := by
            have h1 : pv s.data.toList i * 10 / M < 11 := Nat.div_lt_of_lt_mul (by omega)
            exact Nat.lt_trans h1 (by decide)
          have EH := hide fun W => eqR _ 0 hH M_pos W
          have hbad := digit_bad (pv s.data.toList i) d
          have HOK : Hid (decide (pv s.data.toList i * 10 + d < M) = true → okp s.data.toList i) := fun h => ⟨by omega, by omega, by rw [hpv]; exact of_decide_eq_true h, HN.out⟩
          have HNO : Hid (decide (pv s.data.toList i * 10 + d < M) = false → ¬ okp s.data.toList i) := fun h h2 => absurd (by rw [← hpv]; exact h2.2.2.1) (of_decide_eq_false h)
          have HPV := hide hpv
          have BD : ∀ W, (bdR (.int .u64 (d : Int))).run Try.prog W = .ok (.agg (wn d)) W := fun W => run_buildR d (by omega) W
          have t3 : IntKind.u8.wrap ((s[i].toNat : Int) - 48) = (d : Int) := by simp only [IntKind.wrap_u8]; omega
          have t4 : IntKind.u64.wrap (d : Int) = (d : Int) := wrapu _ (by omega) (by omega)
          have z9 : (decide ((0 : Int) < (i : Int)) = false ∧ ¬ (0 : Int) < (i : Int) ∧ ¬ 0 < i) ∨ (decide ((0 : Int) < (i : Int)) = true ∧ (0 : Int) < (i : Int) ∧ 0 < i ∧ decide (pv s.data.toList i = 0) = false) := by
            rcases Nat.eq_zero_or_pos i with h | h
            · exact .inl ⟨by simp; omega, by omega, by omega⟩
            · exact .inr ⟨by simp; omega, by omega, h, by simp; intro h2; exact hz0 ⟨h, h2⟩⟩
          have E0 := hide fun W => eqR _ 0 hA M_pos W
          generalize decide (pv s.data.toList i * 10 + d < M) = okb at *
          generalize decide (pv s.data.toList i * 10 / M = 0) = hz at *
          generalize decide (M ≤ pv s.data.toList i * 10 % M + d) = ov at *
          obtain ⟨H, hHe⟩ : ∃ H, H = pv s.data.toList i * 10 / M := ⟨_, rfl⟩
          rw [← hHe] at HP EH
          obtain ⟨V, hVe⟩ : ∃ V, V = pv s.data.toList i * 10 + d := ⟨_, rfl⟩
          rw [← hVe] at HA HPV
          obtain ⟨L, hLe⟩ : ∃ L, L = pv s.data.toList i * 10 % M := ⟨_, rfl⟩
          rw [← hLe] at HP HA
          clear hb hA hs hi hdg hz0 hd hpv hlow hdM hH hHe hVe hLe
          generalize pv s.data.toList i = A at *
          have HBad := hide hbad
          clear hbad
          go_upto_region 5 with fail
          go_cut [35] from 17 to 34 (fun s35 wx => s35 = .bool false ∧ wx = wr)
          case first =>
            rcases z9 with ⟨z1, z2, z3⟩ | ⟨z1, z2, z3, z4⟩
            · go_wp2_with fail
              go_meet
              exact ⟨rfl, rfl⟩
            · rw [z4] at E0
              clear z4
              go_wp2_with (first | refine wpList_loadW AR rfl _ rfl (w.heap.size + 1) rfl (wn A) (wn_size _) 23 rA.out ?_ | refine wpList_build0 AR rfl rfl ?_ | refine wpList_eql 23 _ _ _ rfl (wn A) (wn 0) rfl rfl rfl eqgR false E0.out ?_)
              go_meet
              exact ⟨rfl, rfl⟩
          obtain ⟨rfl, rfl⟩ := hcut
          clear z9 E0
          go_upto_region 7 with fail
          go_upto_region 8 with (first | refine wpList_loadA AR rfl _ rfl (w.heap.size + 1) rfl (wn A) (wn_size _) 23 rA.out ?_ | refine wpList_build1 rfl _ rfl _ (wn 10) B10.out rfl ?_ | (go_at_call 43; refine (HP.out _).mono ?_; rintro e w9 ⟨rfl, be⟩; have J9 := hide ((J.out.next be).two 23 L H); clear be) | refine wpList_allocA AR rfl rfl ?_ | refine wpList_storeA AR rfl _ _ rfl _ (wn L) (wn_size _) (wn_one _) rfl rfl (wn 0) (wn_size _) 23 (blk2x w9 (.cells (wn 0) 23) (.cells (wn 0) 23)).1 ?_ | refine wpList_storeA AR rfl _ _ rfl _ (wn H) (wn_size _) (wn_one _) rfl rfl (wn 0) (wn_size _) 23 (blk2s w9 (.cells (wn 0) 23) (.cells (wn 0) 23) (wn L)) ?_)
          try simp only [Act.put, List.setIfInBounds_toArray, List.set_cons_succ, List.set_cons_zero, hsz]
          generalize (((w9.alloc (.cells (wn 0) 23)).alloc (.cells (wn 0) 23)).setRow w9.heap.size (wn L)).setRow (w9.heap.size + 1) (wn H) = W9 at *
          generalize w9.heap.size = g6 at *
          clear J r0 rA HP
          have rl := hide (J9.out.at (g := g6) (t := 23) (n := L) (by simp))
          go_cut [8, 9] from 44 to 54 (fun s8 s9 wx => ∃ g8, s8 = .pointer (some ⟨g8, 0, none⟩) ∧ s9 = .bool ov ∧ Hid (Rs w wx [(g8, 23, V), (g6, 23, L), (g6 + 1, 23, H), (w.heap.size + 1, 23, A), (w.heap.size, 23, 0)]))
          case first =>
            go_region_held3 (fun w' => Below W9.heap.size W9 w' ∧ (ldR (.pointer (some ⟨g6, 0, none⟩))).run Try.prog w' = .ok (.agg (wn L)) w') (first | assumption | exact (fun hb => ⟨hb, ldBR rl.out hb⟩) ((Below.refl _ _).drew) | exact (fun hb => ⟨hb, ldBR rl.out hb⟩) (below_next (And.left (by assumption)) be) | exact (fun hb => ⟨hb, ldBR rl.out hb⟩) (bel_alloc (And.left (by assumption)) _) | exact (fun hb => ⟨hb, ldBR rl.out hb⟩) (bel_put (And.left (by assumption)) (by first | exact Nat.le_refl _ | exact sz1.out) _)) (first | (go_at_call 44; refine (HA.out _).mono ?_; rintro e w1 ⟨rfl, be⟩; have sz1 : Hid (W9.heap.size ≤ w1.heap.size) := bel_size (below_next (And.left (by assumption)) be); (try have z1 := hide (zero_keptR_drew be)); (first | have s1 := svR_row z1.out V | have s1 := svR_new w1 V)))
            all_goals (go_wp2_with fail; go_meet; first | exact ⟨_, rfl, rfl, (J9.out.next (And.left (by assumption))).cons (row_newR _ _)⟩ | exact ⟨_, rfl, rfl, (J9.out.next (And.left (by assumption))).cons (setRow_heap _ _ _ _ _ _ z1.out)⟩)
          obtain ⟨g8, rfl, rfl, J1⟩ := hcut
          clear J9 rl HA BD
          generalize wc = W1 at *
          have rv := hide (J1.out.at (g := g8) (t := 23) (n := V) (by simp))
          have rh := hide (J1.out.at (g := g6 + 1) (t := 23) (n := H) (by simp))
          have rr := hide (J1.out.at (g := w.heap.size) (t := 23) (n := 0) (by simp))
          have ra := hide (J1.out.at (g := w.heap.size + 1) (t := 23) (n := A) (by simp))
          have BAD : Hid (∀ W, Hid (Rs w W [(g8, 23, V), (g6, 23, L), (g6 + 1, 23, H), (w.heap.size + 1, 23, A), (w.heap.size, 23, 0)]) → W = W1 → True) := fun _ _ _ => trivial
          clear BAD
          cases ov
          · cases hz
            · have NO := hide (HNO.out (by have := HBad.out; simpa using this.symm))
              go_wp2_with (first | refine wpList_loadW AR rfl _ rfl (g6 + 1) rfl (wn H) (wn_size _) 23 rh.out ?_ | refine wpList_build0 AR rfl rfl ?_ | refine wpList_neq 23 _ _ _ rfl (wn H) (wn 0) rfl rfl rfl eqgR false EH.out ?_ | refine wpList_buildA AR rfl rfl ?_ | refine wpList_storeA AR rfl _ _ rfl _ (wn 0) (wn_size _) (wn_one _) rfl rfl (wn 0) (wn_size 0) 23 rr.out ?_)
              exact bodyPost_ret (v := .tuple #[.agg (wn 0), .int .i64 (i : Int)]) (resA2 AR Try.results17 _ _ w.heap.size 23 (wn 0) (wn_size _) rfl (setRow_heap _ _ _ _ _ _ rr.out) _ (by rfl)) rfl ⟨.inl ⟨i, IL.out.1, O.out, NO.out, rfl⟩, below_setRow J1.out.bel (Nat.le_refl _) _⟩
            · have OK := hide (HOK.out (by have := HBad.out; simpa using this.symm))
              go_wp2_with (first | refine wpList_loadW AR rfl _ rfl (g6 + 1) rfl (wn H) (wn_size _) 23 rh.out ?_ | refine wpList_build0 AR rfl rfl ?_ | refine wpList_neq 23 _ _ _ rfl (wn H) (wn 0) rfl rfl rfl eqgR true EH.out ?_ | refine wpList_loadA AR rfl _ rfl g8 rfl (wn V) (wn_size _) 23 rv.out ?_ | refine wpList_storeA AR rfl _ _ rfl _ (wn V) (wn_size _) (wn_one _) rfl rfl (wn A) (wn_size _) 23 ra.out ?_)
              have L1 := IL.out
              refine ⟨⟨i + 1, by omega, by go_num, ?_, fun j hj => ?_⟩, by simpa [intOf] using IL.out.2⟩
              · rw [HPV.out]
                exact Rs.put J1.out (w.heap.size + 1) 23 V ⟨A, by simp⟩ (by omega) (fun p hp => by
                  simp only [List.mem_cons, List.not_mem_nil, or_false] at hp
                  rcases hp with rfl | rfl
                  · exact .inl rfl
                  · exact .inr ⟨by simp, by simp⟩)
              · rcases Nat.lt_or_ge j i with h | h
                · exact O.out j h
                · rw [show j = i by omega]
                  exact OK.out
          · have NO := hide (HNO.out (by have := HBad.out; simpa using this.symm))
            go_wp2_with (first | refine wpList_buildA AR rfl rfl ?_ | refine wpList_storeA AR rfl _ _ rfl _ (wn 0) (wn_size _) (wn_one _) rfl rfl (wn 0) (wn_size 0) 23 rr.out ?_)
            exact bodyPost_ret (v := .tuple #[.agg (wn 0), .int .i64 (i : Int)]) (resA2 AR Try.results17 _ _ w.heap.size 23 (wn 0) (wn_size _) rfl (setRow_heap _ _ _ _ _ _ rr.out) _ (by rfl)) rfl ⟨.inl ⟨i, IL.out.1, O.out, NO.out, rfl⟩, below_setRow J1.out.bel (Nat.le_refl _) _⟩
      · have NO : Hid (¬ okp s.data.toList i) := fun h => hdg ⟨by rw [← hb]; exact h.1, by rw [← hb]; exact h.2.1⟩
        have tt : (s[i].toNat : Int) < 48 ∨ (¬ (s[i].toNat : Int) < 48 ∧ (57 : Int) < (s[i].toNat : Int)) := by omega
        clear hb hA hs hi hdg
        rcases tt with t1 | ⟨t1, t2⟩
        all_goals
          go_wp2_with (first | refine wpList_buildA AR rfl rfl ?_ | refine wpList_storeA AR rfl _ _ rfl _ (wn 0) (wn_size _) (wn_one _) rfl rfl (wn 0) (wn_size 0) 23 r0.out ?_)
          exact bodyPost_ret (v := .tuple #[.agg (wn 0), .int .i64 (i : Int)]) (resA2 AR Try.results17 _ _ w.heap.size 23 (wn 0) (wn_size _) rfl (setRow_heap _ _ _ _ _ _ r0.out) _ (by rfl)) rfl ⟨.inl ⟨i, IL.out.1, O.out, NO.out, rfl⟩, below_setRow J.out.bel (Nat.le_refl _) _⟩
    · have hke : i = s.size := by omega
      subst hke
      have hnl : ¬ (s.size : Int) < (s.size : Int) := by omega
      clear hs hi hlt
      by_cases h0 : s.size = 0
      · have hse : s.toList.isEmpty = true := by rw [empty_iff, h0]; rfl
        have H0 := hide h0
        clear h0
        go_wp2_with (first | refine wpList_buildA AR rfl rfl ?_ | refine wpList_storeA AR rfl _ _ rfl _ (wn 0) (wn_size _) (wn_one _) rfl rfl (wn 0) (wn_size 0) 23 r0.out ?_)
        exact bodyPost_ret (v := .tuple #[.agg (wn 0), .int .i64 0]) (resA2 AR Try.results17 _ _ w.heap.size 23 (wn 0) (wn_size _) rfl (setRow_heap _ _ _ _ _ _ r0.out) _ (by rfl)) rfl ⟨.inr (.inl ⟨by simpa using H0.out, rfl⟩), below_setRow J.out.bel (Nat.le_refl _) _⟩
      · have H0 := hide (show 0 < s.size by omega)
        have hse : s.toList.isEmpty = false := by rw [empty_iff]; simp [h0]
        clear h0
        go_wp2_with (first | refine wpList_loadA AR rfl _ rfl (w.heap.size + 1) rfl (wn (pv s.data.toList s.size)) (wn_size _) 23 rA.out ?_ | refine wpList_storeA AR rfl _ _ rfl _ (wn (pv s.data.toList s.size)) (wn_size _) (wn_one _) rfl rfl (wn 0) (wn_size 0) 23 r0.out ?_)
        exact bodyPost_ret (v := .tuple #[.agg (wn (pv s.data.toList s.size)), .int .i64 (-1)]) (resA2 AR Try.results17 _ _ w.heap.size 23 (wn (pv s.data.toList s.size)) (wn_size _) rfl (setRow_heap _ _ _ _ _ _ r0.out) _ (by rfl)) rfl ⟨.inr (.inr ⟨H0.out, O.out, rfl⟩), below_setRow J.out.bel (Nat.le_refl _) _⟩
end
end Go.Proofs.Ytmfpnlnhebjelaa
