/- The law MerkleBranches: its walk. -/
import Derived.Test.YtlfgeaechckalaaDoorMy
namespace Go.Proofs.YtlfgeaechckalaaDoor
open Go.RowKit
open Go.Deep
theorem byte_of_int (p : Int) : ∃ b : UInt8, IntKind.u8.wrap p = (b.toNat : Int) := by
  refine ⟨UInt8.ofNat (p % 256).toNat, ?_⟩
  rw [UInt8.toNat_ofNat', IntKind.wrap_u8]
  omega
/-- Rows of ids: place, type, id. -/
structure Hs (w W : World) (l : List (Nat × TypeId × List UInt8)) : Prop where
  row : ∀ p ∈ l, W.heap[p.1]? = some (.cells (hc p.2.2) p.2.1 (0, 0))
  bel : Below w.heap.size w W
section
variable {w W W' : World} {l : List (Nat × TypeId × List UInt8)} {g : Nat} {t : TypeId} {x : List UInt8}
theorem Hs.at (j : Hs w W l) (h : (g, t, x) ∈ l) : W.heap[g]? = some (.cells (hc x) t (0, 0)) := j.row _ h
theorem Hs.next (j : Hs w W l) (h : Below W.heap.size W W') : Hs w W' l := ⟨fun p hp => (h.block _ (lt_heap (j.row p hp))).trans (j.row p hp), below_next j.bel h⟩
theorem Hs.drew (j : Hs w W l) : Hs w W.drew l := ⟨j.row, j.bel.drew⟩
theorem Hs.new (j : Hs w W l) (t : TypeId) (x : List UInt8) : Hs w (W.alloc (.cells (hc x) t)) ((W.heap.size, t, x) :: l) := by
  have k := j.next ((Below.refl _ _).alloc (Nat.le_refl _) (.cells (hc x) t))
  refine ⟨fun p hp => ?_, k.bel⟩
  rcases List.mem_cons.1 hp with rfl | h
  · exact heap_alloc_last _ _
  · exact k.row p h
theorem Hs.start (B : Below w.heap.size w W) : Hs w W [] := ⟨fun _ hp => (List.not_mem_nil hp).elim, B⟩
end
theorem ldh_row {W : World} {g : Nat} {t : TypeId} {x : List UInt8} (hx : x.length = 32) (h : W.heap[g]? = some (.cells (hc x) t (0, 0))) : (ldh (.pointer (some ⟨g, 0, none⟩))).run Tryd.prog W = .ok (.agg (hc x)) W := ld_row A25 (by rw [hc_size, hx]) h
attribute [local go_sem ↓] ldh_eq
section
set_option maxRecDepth 10000
set_option maxHeartbeats 40000000
theorem merkleBranches_walk {w : World} (v : Value) (L : List (List UInt8)) (hL : LH w v L) (p : Int) (hp1 : -9223372036854775808 ≤ p) (hp2 : p ≤ 9223372036854775807) (vo : Value) (B : List (List UInt8)) (hB : LH w vo B) (hK : Kg w) :
    Calls Tryd.prog 4 #[v, .int .i64 p, vo] w fun e w' => e = .returned (.bool true) ∧ Below w.heap.size w w' := by
  have HF := hide (few_any v L w hL)
  have hlen : (L.take 300).length ≤ 300 := by simp; omega
  have H3 : Hid (H32 (L.take 300)) := H32.take hL.1 300
  generalize L.take 300 = M at *
  have KW : Hid (∀ W, Below w.heap.size w W → Kg W) := fun W h => hK.next h
  have HAw := hide fun W hW => awake6_any W hW
  have HB := hide hB
  have HP := hide (And.intro hp1 hp2)
  obtain ⟨bb, hbb⟩ := byte_of_int p
  obtain ⟨bo, capB, rfl⟩ := hB.form
  clear hL hB hK hp1 hp2
  go_enter Tryd.func4, Tryd.ntmps4
  go_upto_region 2 with (first | (go_at_call 7; refine HF.out.mono ?_; rintro e w1 ⟨vm, rfl, hww, hm⟩; subst w1; have HM := hide hm; clear hm))
  obtain ⟨am, capm, rfl⟩ := HM.out.form
  clear HF
  obtain ⟨inn, hinn⟩ : ∃ inn : Bool, inn = decide (0 ≤ p ∧ p < (M.length : Int)) := ⟨_, rfl⟩
  have HIN := hide hinn
  clear hinn
  -- the branch
  go_cut [7, 8] from 13 to 18 (fun s7 s8 wx => ∃ ec : Int, s8 = .int .i64 ec ∧ Hid ((inn = true ∧ ec = 0 ∧ Oj 25 w wx s7 (brL M p.toNat)) ∨ (inn = false ∧ ec = 60 ∧ s7 = .slice none 0 0 ∧ Below w.heap.size w wx)))
  case first =>
    cases inn
    · have hp0 : p < 0 ∨ (M.length : Int) ≤ p := by
        have := of_decide_eq_false HIN.out.symm
        omega
      have HBr := hide (branch_no (.slice am M.length capm) M p w HM.out hp0)
      clear hp0
      go_wp2_with (first | (go_at_call 21; refine HBr.out.mono ?_; rintro e w2 ⟨rfl, hww⟩; subst w2))
      go_meet
      exact ⟨60, rfl, .inr ⟨by simp, rfl, rfl, Below.refl _ _⟩⟩
    · have hp0 := of_decide_eq_true HIN.out.symm
      obtain ⟨q, rfl⟩ := Int.eq_ofNat_of_zero_le hp0.1
      have HBr := hide (branch_yes (.slice am M.length capm) M q w HM.out (by omega) (by omega) (KW.out _ (Below.refl _ _)))
      clear hp0
      go_wp2_with (first | (go_at_call 21; refine HBr.out.mono ?_; rintro e w2 ⟨v2, rfl, o2⟩; have J2 := hide o2; clear o2))
      go_meet
      exact ⟨0, rfl, .inl ⟨by simp, rfl, by rw [Int.toNat_natCast]; exact J2.out⟩⟩
  obtain ⟨ec, rfl, BR⟩ := hcut
  have BB2 : Hid (Below w.heap.size w wc) := by
    rcases BR.out with ⟨_, _, h⟩ | ⟨_, _, _, h⟩
    · exact h.bel
    · exact h
  generalize wc = W2 at *
  go_upto_region 5 with (first | (go_at_call 11; refine (HAw.out _ (KW.out _ BB2.out)).mono ?_; rintro e w3 ⟨rfl, be⟩; have BE := hide be; clear be))
  have BB3 := hide (below_next BB2.out BE.out)
  go_cut [28] from 21 to 27 (fun s28 wx => s28 = .bool (!inn) ∧ wx = w3)
  case first =>
    cases inn
    · have hp0 : p < 0 ∨ (¬ p < 0 ∧ (M.length : Int) ≤ p) := by
        have := of_decide_eq_false HIN.out.symm
        omega
      rcases hp0 with t1 | ⟨t1, t2⟩
      all_goals
        go_wp2_with fail
        go_meet
        exact ⟨rfl, rfl⟩
    · have hp0 := of_decide_eq_true HIN.out.symm
      have t1 : ¬ p < 0 := by omega
      have t2 : ¬ (M.length : Int) ≤ p := by omega
      clear hp0
      go_wp2_with fail
      go_meet
      exact ⟨rfl, rfl⟩
  obtain ⟨rfl, hwc⟩ := hcut
  subst wc
  go_upto_if 28 with fail
  go_cut [] from 29 to 46 (fun wx => Hid (Below w.heap.size w wx))
  case first =>
    cases inn
    · obtain ⟨rfl, rfl, _⟩ : ec = 60 ∧ u7 = .slice none 0 0 ∧ True := by
        rcases BR.out with ⟨h, _⟩ | ⟨_, h2, h3, _⟩
        · cases h
        · exact ⟨h2, h3, trivial⟩
      rw [Bool.not_false]
      go_wp2_with fail
      go_meet
      exact BB3
    · obtain ⟨rfl, J3⟩ : ec = 0 ∧ Hid (Oj 25 w w3 u7 (brL M p.toNat)) := by
        rcases BR.out with ⟨_, h2, h3⟩ | ⟨h, _⟩
        · exact ⟨h2, h3.next BE.out⟩
        · cases h
      have hp0 := of_decide_eq_true HIN.out.symm
      have hq : p.toNat < M.length := by omega
      have HM3 := hide (HM.out.below BB3.out)
      have HGi := hide fun W hW => given_any (.slice am M.length capm) M W hW (by omega)
      have HRb := hide fun V W hW => rbranch_any V M p.toNat W hW hq (by omega)
      rw [Int.toNat_of_nonneg hp0.1] at HRb
      have hbl : (brL M p.toNat).length ≤ 32 := by
        unfold brL
        rw [brK_len]
        exact dp_le _ (by omega)
      have HSa := hide fun V1 V2 W h1 h2 => same_any V1 V2 (brL M p.toNat) W h1 h2 (by omega)
      generalize brL M p.toNat = BL at *
      clear hp0 hq hbl BR
      rw [Bool.not_true]
      go_wp2_with (first | (go_at_call 10; refine (HGi.out _ HM3.out).mono ?_; rintro e w4 ⟨v4, rfl, o4⟩; have J4 := hide (J3.out.next o4.bel); have L4 := hide o4.own.read; clear o4) | (go_at_call 22; refine (HRb.out _ _ L4.out).mono ?_; rintro e w5 ⟨v5, rfl, o5⟩; have J5 := hide (J4.out.next o5.bel); have L5 := hide o5.own.read; clear o5) | (go_at_call 14; refine (HSa.out _ _ _ J5.out.own.read L5.out).mono ?_; rintro e w6 ⟨rfl, be⟩; have B6 := hide (below_next J5.out.bel be); clear be))
      go_meet
      exact B6
  have B6 := hcut
  clear BR BE BB2 BB3 HIN
  generalize wc = w6 at *
  have J7 := hide ((Hs.start B6.out).new 25 (fst1 bb))
  have HBd := hide fun W => run_fst1 bb W
  have lb := hide (fst1_len bb)
  generalize fst1 bb = X at *
  clear H3 HAw hlen HM
  go_upto_region 11 with (first | refine wpList_bld1 rfl _ rfl _ (hc X) HBd.out rfl ?_ | refine wpList_allocA A25 rfl rfl ?_ | refine wpList_store_newA A25 rfl _ _ rfl _ rfl (hc X) (by rw [hc_size, lb.out]) (hc_one _) rfl rfl ?_)
  try simp only [Act.put, List.setIfInBounds_toArray, List.set_cons_succ, List.set_cons_zero]
  generalize w6.alloc (.cells (hc X) 25) = W7 at *
  generalize w6.heap.size = g9 at *
  clear HBd hbb
  have r9 := hide (J7.out.at (g := g9) (t := 25) (x := X) (by simp))
  have HB7 := hide (HB.out.below J7.out.bel)
  have eZ := hide fun W => eqH EH zeros zeros zeros_len zeros_len W
  rw [show (zeros == zeros) = true by simp] at eZ
  by_cases hmany : 32 < B.length
  · have h1 : (32 : Int) < (B.length : Int) := by omega
    have HC := hide (check_many X p _ B W7 HB7.out hmany)
    clear hmany
    go_upto_region 12 with (first | refine wpList_loadA A25 rfl _ rfl g9 rfl (hc X) (by rw [hc_size, lb.out]) 25 r9.out ?_ | (go_at_call 23; refine HC.out.mono ?_; rintro e w8 ⟨rfl, be⟩; have J8 := hide ((J7.out.next be).new 25 zeros); clear be) | refine wpList_allocA A25 rfl rfl ?_ | refine wpList_store_newA A25 rfl _ _ rfl _ rfl (hc zeros) (by rw [hc_size, zeros_len]) (hc_one _) rfl rfl ?_)
    try simp only [Act.put, List.setIfInBounds_toArray, List.set_cons_succ, List.set_cons_zero]
    generalize w8.alloc (.cells (hc zeros) 25) = W8 at *
    generalize w8.heap.size = g10 at *
    have r10 := hide (J8.out.at (g := g10) (t := 25) (x := zeros) (by simp))
    go_wp2_with (first | refine wpList_loadA A25 rfl _ rfl g10 rfl (hc zeros) (by rw [hc_size, zeros_len]) 25 r10.out ?_ | refine wpList_buildA A25 rfl rfl ?_ | refine wpList_eql 25 _ _ _ rfl (hc zeros) (hc zeros) rfl rfl rfl eqg25 true eZ.out ?_)
    go_ret
    exact ⟨rfl, J8.out.bel⟩
  · have h1 : ¬ (32 : Int) < (B.length : Int) := by omega
    have h32 : (B.length : Int) ≤ 32 := by omega
    have hpw : ((2 ^ B.length : Nat) : Int) = 2 ^ B.length := by simp
    have hpl : (2 : Int) ^ B.length ≤ 4294967296 := by
      rw [← hpw]
      have : 2 ^ B.length ≤ 2 ^ 32 := Nat.pow_le_pow_right (by decide) (by omega)
      omega
    have hpp : (0 : Int) < 2 ^ B.length := Int.pow_pos (by decide)
    by_cases hbad : p < 0 ∨ ((2 ^ B.length : Nat) : Int) ≤ p
    · have HC := hide (check_place X p _ B W7 HB7.out hmany hbad)
      rw [hpw] at hbad
      have KEY : p < 0 ∨ (¬ p < 0 ∧ (2 : Int) ^ B.length ≤ p) := by omega
      clear hmany hbad hpw
      go_upto_region 12 with (first | refine wpList_loadA A25 rfl _ rfl g9 rfl (hc X) (by rw [hc_size, lb.out]) 25 r9.out ?_ | (go_at_call 23; refine HC.out.mono ?_; rintro e w8 ⟨rfl, be⟩; have J8 := hide ((J7.out.next be).new 25 zeros); clear be) | refine wpList_allocA A25 rfl rfl ?_ | refine wpList_store_newA A25 rfl _ _ rfl _ rfl (hc zeros) (by rw [hc_size, zeros_len]) (hc_one _) rfl rfl ?_)
      try simp only [Act.put, List.setIfInBounds_toArray, List.set_cons_succ, List.set_cons_zero]
      generalize w8.alloc (.cells (hc zeros) 25) = W8 at *
      generalize w8.heap.size = g10 at *
      have r10 := hide (J8.out.at (g := g10) (t := 25) (x := zeros) (by simp))
      rcases KEY with t1 | ⟨t1, t2⟩
      · go_wp2_with (first | refine wpList_loadA A25 rfl _ rfl g10 rfl (hc zeros) (by rw [hc_size, zeros_len]) 25 r10.out ?_ | refine wpList_buildA A25 rfl rfl ?_ | refine wpList_eql 25 _ _ _ rfl (hc zeros) (hc zeros) rfl rfl rfl eqg25 true eZ.out ?_)
        all_goals (go_ret; exact ⟨rfl, J8.out.bel⟩)
      · go_wp2_with (first | refine wpList_loadA A25 rfl _ rfl g10 rfl (hc zeros) (by rw [hc_size, zeros_len]) 25 r10.out ?_ | refine wpList_buildA A25 rfl rfl ?_ | refine wpList_eql 25 _ _ _ rfl (hc zeros) (hc zeros) rfl rfl rfl eqg25 true eZ.out ?_)
        all_goals (go_ret; exact ⟨rfl, J8.out.bel⟩)
    · obtain ⟨q2, hq2⟩ : ∃ q2 : Nat, p = q2 := ⟨p.toNat, by omega⟩
      subst hq2
      have hq3 : q2 < 2 ^ B.length := by omega
      have HC := hide (check_yes X lb.out q2 _ B W7 HB7.out (by omega) hq3 (KW.out _ J7.out.bel))
      have HRC := hide fun V W hW => rcheck_any X lb.out q2 V B W hW (by omega) hq3
      have HGi := hide fun W hW => given_any (.slice bo B.length capB) B W hW (by omega)
      have lY := hide (ckK_len lb.out q2 B B.length)
      have t1 : ¬ (q2 : Int) < 0 := by omega
      have t2 : ¬ (2 : Int) ^ B.length ≤ (q2 : Int) := by rw [← hpw]; omega
      generalize ckK X q2 B B.length = Y at *
      clear hmany hbad hpw hq3
      go_upto_region 12 with (first | refine wpList_loadA A25 rfl _ rfl g9 rfl (hc X) (by rw [hc_size, lb.out]) 25 r9.out ?_ | (go_at_call 23; refine HC.out.mono ?_; rintro e w8 ⟨rfl, be⟩; have J8 := hide ((J7.out.next be).new 25 Y); clear be) | refine wpList_allocA A25 rfl rfl ?_ | refine wpList_store_newA A25 rfl _ _ rfl _ rfl (hc Y) (by rw [hc_size, lY.out]) (hc_one _) rfl rfl ?_)
      try simp only [Act.put, List.setIfInBounds_toArray, List.set_cons_succ, List.set_cons_zero]
      generalize w8.alloc (.cells (hc Y) 25) = W8 at *
      generalize w8.heap.size = g10 at *
      clear HC r9 J7 HB7
      have HB8 := hide (HB.out.below J8.out.bel.drew)
      have eY : ∀ W, (Op.equalIn 10000 25 (.agg (hc Y)) (.agg (hc Y))).run Tryd.prog W = .ok true W := fun W => by
        have := eqH EH Y Y lY.out lY.out W
        rw [show (Y == Y) = true by simp] at this
        exact this
      have hgE := eqg25
      go_upto_region 16 with fail
      clear h32 hpl hpp HP h1 t1 t2 eZ HB KW
      refine wp_region_held_drew (S := fun W => Hs w W [(g10, 25, Y), (g9, 25, X)]) (by kernel_rfl) J8.out.drew (fun hH => ?_)
      refine wpAnyH_take (i := 0) (v := .agg (hc Y)) rfl (by kernel_rfl) (by kernel_rfl) (by kernel_rfl) (fun _ _ _ h => h) (yl_load (by rfl) _ (by rfl) _ (hc Y) (by rfl) (fun W hS => ldh_row lY.out (Hs.at (g := g10) (t := 25) (x := Y) hS (by simp)))) hH ?_
      change wpAnyH _ _ _ _ _ _ _ (Act.put _ (some 85) _) _
      simp only [Act.put, List.setIfInBounds_toArray, List.set_cons_zero, List.set_cons_succ]
      refine wpAnyH_take (i := 1) (v := .agg (hc X)) rfl (by kernel_rfl) (by kernel_rfl) (by kernel_rfl) (fun _ _ _ h => h) (yl_load (by rfl) _ (by rfl) _ (hc X) (by rfl) (fun W hS => ldh_row lb.out (Hs.at (g := g9) (t := 25) (x := X) hS (by simp)))) hH ?_
      change wpAnyH _ _ _ _ _ _ _ (Act.put _ (some 86) _) _
      simp only [Act.put, List.setIfInBounds_toArray, List.set_cons_zero, List.set_cons_succ]
      refine wpAnyH_take (i := 2) rfl (by kernel_rfl) (by kernel_rfl) (by kernel_rfl) (fun _ _ _ h => h) (yl_move (by rfl) _ (by rfl) _ (by rfl)) hH ?_
      change wpAnyH _ _ _ _ _ _ _ (Act.put _ (some 87) _) _
      simp only [Act.put, List.setIfInBounds_toArray, List.set_cons_zero, List.set_cons_succ]
      refine wpAnyH_take (i := 3) rfl (by kernel_rfl) (by kernel_rfl) (by kernel_rfl) (fun _ _ _ h => h) (yl_move (by rfl) _ (by rfl) _ (by rfl)) hH ?_
      change wpAnyH _ _ _ _ _ _ _ (Act.put _ (some 88) _) _
      simp only [Act.put, List.setIfInBounds_toArray, List.set_cons_zero, List.set_cons_succ]
      refine wpAnyH_ready (rs := [4]) (by kernel_rfl) (by simp) (AllReadyH.cons rfl (fun K1 hK1 => ?_) AllReadyH.nil)
      go_simp
      refine (HGi.out _ HB8.out).mono ?_
      rintro e w9 ⟨v9, rfl, o9⟩
      have J9 := hide (Hs.next hH o9.bel)
      have L9 := hide o9.own.read
      clear o9 hH
      refine hK1.out _ _ J9.out (fun hH => ?_)
      clear hK1
      refine wpAnyH_ready (rs := [5]) (by kernel_rfl) (by simp) (AllReadyH.cons rfl (fun K2 hK2 => ?_) AllReadyH.nil)
      go_simp
      refine (HRC.out _ _ L9.out).mono ?_
      rintro e w10 ⟨rfl, be⟩
      have J10 := hide (Hs.next hH be)
      clear be hH
      refine hK2.out _ _ J10.out (fun hH => ?_)
      clear hK2
      refine wpAnyH_take (i := 6) (v := .bool true) rfl (by kernel_rfl) (by kernel_rfl) (by kernel_rfl) (fun _ _ _ h => h) (yl_eql (by rfl) 25 _ _ _ (by rfl) (hc Y) (hc Y) (by rfl) (by rfl) eqg25 true eY) hH ?_
      change wpAnyH _ _ _ _ _ _ _ (Act.put _ (some 91) _) _
      simp only [Act.put, List.setIfInBounds_toArray, List.set_cons_zero, List.set_cons_succ]
      refine wpAnyH_take (i := 7) rfl (by kernel_rfl) (by kernel_rfl) (by kernel_rfl) (fun _ _ _ h => h) (yl_move (by rfl) _ (by rfl) _ (by rfl)) hH ?_
      change wpAnyH _ _ _ _ _ _ _ (Act.put _ (some 92) _) _
      simp only [Act.put, List.setIfInBounds_toArray, List.set_cons_zero, List.set_cons_succ]
      refine wpAnyH_take (i := 8) rfl (by kernel_rfl) (by kernel_rfl) (by kernel_rfl) (fun _ _ _ h => h) (yl_move (by rfl) _ (by rfl) _ (by rfl)) hH ?_
      change wpAnyH _ _ _ _ _ _ _ (Act.put _ (some 93) _) _
      simp only [Act.put, List.setIfInBounds_toArray, List.set_cons_zero, List.set_cons_succ]
      refine wpAnyH_take (i := 9) (v := .bool true) rfl (by kernel_rfl) (by kernel_rfl) (by kernel_rfl) (fun _ _ _ h => h) (.inl ⟨by rfl, fun W _ => by go_simp⟩) hH ?_
      change wpAnyH _ _ _ _ _ _ _ (Act.put _ (some 94) _) _
      simp only [Act.put, List.setIfInBounds_toArray, List.set_cons_zero, List.set_cons_succ]
      refine wpAnyH_take (i := 10) (v := .bool true) rfl (by kernel_rfl) (by kernel_rfl) (by kernel_rfl) (fun _ _ _ h => h) (.inl ⟨by rfl, fun W _ => by go_simp⟩) hH ?_
      change wpAnyH _ _ _ _ _ _ _ (Act.put _ (some 95) _) _
      simp only [Act.put, List.setIfInBounds_toArray, List.set_cons_zero, List.set_cons_succ]
      refine wpAnyH_take (i := 11) (v := .bool true) rfl (by kernel_rfl) (by kernel_rfl) (by kernel_rfl) (fun _ _ _ h => h) (.inl ⟨by rfl, fun W _ => by go_simp⟩) hH ?_
      change wpAnyH _ _ _ _ _ _ _ (Act.put _ (some 6) _) _
      simp only [Act.put, List.setIfInBounds_toArray, List.set_cons_zero, List.set_cons_succ]
      refine wpAnyH_done (by kernel_rfl) ?_ _
      go_wp2
      go_ret
      exact ⟨rfl, J10.out.bel⟩
end
end Go.Proofs.YtlfgeaechckalaaDoor
