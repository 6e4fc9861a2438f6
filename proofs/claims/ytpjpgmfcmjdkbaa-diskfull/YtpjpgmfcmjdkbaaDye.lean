/- The walk of DiskFull. -/
import Derived.Test.YtpjpgmfcmjdkbaaDyd
namespace Go.Proofs.Ytpjpgmfcmjdkbaa
open Go.RowKit
open Go.Deep
open Go.Lib
/-- A piece of a text. -/
theorem run_mid (s : ByteArray) (a b : Nat) (x y : Int) (hx : x = (a : Int)) (hy : y = (b : Int)) (h1 : a ≤ b) (h2 : b ≤ s.size) (W : World) : (Instr.sliceAt 9 (.string s) (some (.int .i64 x)) (some (.int .i64 y)) none).run Try.prog W = .ok (.string (s.extract a b)) W := by
  subst hx hy
  simp [Instr.sliceAt, Instr.slice, run_underlying Try.underlying9, Instr.sliceBounds, Instr.sliceBound, asIntOf, h1, h2, Result.andThen]
section
set_option maxRecDepth 10000
set_option maxHeartbeats 4000000
theorem diskFull_walk (more : Int) (w : World) : Calls Try.prog 5 #[.int .i64 more] w fun e w' => e = .returned (.bool true) ∧ Below w.heap.size w w' := by
  have HN := hide fun W => new_any W
  have HAw := hide fun W => awake_any W
  go_enter Try.func5, Try.ntmps5
  go_wp2_with (first | (go_at_call 7; refine (HN.out _).mono ?_; rintro e w2 ⟨rfl, hd, hb⟩; have J1 : Hid (DB w w2 w.heap.size x0 (fun g => g = w.heap.size)) := ⟨hd, hb, fun g hg => by omega⟩; clear hd hb) | (go_at_call 8; refine (HAw.out _).mono ?_; rintro e w3 ⟨rfl, hb⟩; have J2 := hide (J1.out.next hb); clear hb J1))
  generalize hgd : w.heap.size = gd at *
  go_loopw [5] (fun i wr => ∃ (k : Nat) (x : St) (T : Nat → Prop), k ≤ 64 ∧ i = .int .i64 k ∧ Hid (Fil x k) ∧ Hid (DB w wr gd x T)) (fun i _ => (64 - intOf i).toNat)
  case atStart => exact ⟨0, x0, _, by omega, rfl, Fil.x0, J2⟩
  case round =>
    clear J2 HN HAw
    obtain ⟨k, x, T, hk, rfl, FI, J⟩ := hrel
    by_cases hlt : (k : Int) < 64
    · have k0 : (0 : Int) ≤ k := by omega
      have FI2 := hide (FI.out.add (by omega))
      have HW : Hid (∀ W, DK W gd x T → Calls Try.prog 16 #[.pointer (some ⟨gd, 0, none⟩), .string (nm2 k), .int .i64 0, .string ⟨#[]⟩] W fun e w' => e = .returned (.int .i64 0) ∧ DK w' gd (mkC x (wrC (nm2 k) 0 nmE)) (grow T W w') ∧ Fr T W w') := fun W h => write_ok gd x T (nm2 k) 0 ⟨#[]⟩ W h FI.out.vd FI.out.plan (by rw [FI.out.dead]; exact rdy_of (nm2_name (by omega))) (Nat.zero_le _) (by decide) (.inr (by have := FI.out.n; omega)) (by have := FI.out.many; omega) (by have := FI.out.made; omega)
      generalize mkC x (wrC (nm2 k) 0 nmE) = x2 at *
      have J' := hide (J.out.next (Below.refl wr.heap.size wr).drew)
      have e1 := hide (show ((k : Int) / 8) = ((k / 8 : Nat) : Int) by omega)
      have e2 := hide (show ((k : Int) / 8 + 1) = ((k / 8 + 1 : Nat) : Int) by omega)
      have e3 := hide (show ((k : Int) % 8) = ((k % 8 : Nat) : Int) by omega)
      have e4 := hide (show ((k : Int) % 8 + 1) = ((k % 8 + 1 : Nat) : Int) by omega)
      have s1 := hide (show k / 8 + 1 ≤ nmS.size by show k / 8 + 1 ≤ 8; omega)
      have s2 := hide (show k % 8 + 1 ≤ nmS.size by show k % 8 + 1 ≤ 8; omega)
      go_upto_region 8 with fail
      refine wp_region_held_drew (S := fun _ => True) (by kernel_rfl) trivial (fun hH => ?_)
      refine wpAnyH_take (i := 0) (v := .pointer (some ⟨gd, 0, none⟩)) rfl (by kernel_rfl) (by kernel_rfl) (by kernel_rfl) (fun _ _ _ h => h) (yl_move (by rfl) _ (by rfl) _ (by rfl)) hH ?_
      change wpAnyH _ _ _ _ _ _ _ (Act.put _ (some 17) _) _
      simp only [Act.put, List.setIfInBounds_toArray, List.set_cons_zero, List.set_cons_succ]
      refine wpAnyH_take (i := 1) (v := .string ⟨#[97, 98, 99, 100, 101, 102, 103, 104]⟩) rfl (by kernel_rfl) (by kernel_rfl) (by kernel_rfl) (fun _ _ _ h => h) (yl_move (by rfl) _ (by rfl) _ (by rfl)) hH ?_
      change wpAnyH _ _ _ _ _ _ _ (Act.put _ (some 18) _) _
      simp only [Act.put, List.setIfInBounds_toArray, List.set_cons_zero, List.set_cons_succ]
      refine wpAnyH_take (i := 2) (v := .int .i64 (k : Int)) rfl (by kernel_rfl) (by kernel_rfl) (by kernel_rfl) (fun _ _ _ h => h) (yl_move (by rfl) _ (by rfl) _ (by rfl)) hH ?_
      change wpAnyH _ _ _ _ _ _ _ (Act.put _ (some 19) _) _
      simp only [Act.put, List.setIfInBounds_toArray, List.set_cons_zero, List.set_cons_succ]
      refine wpAnyH_take (i := 3) (v := .int .i64 ((k : Int) / 8)) rfl (by kernel_rfl) (by kernel_rfl) (by kernel_rfl) (fun _ _ _ h => h) (.inl ⟨by rfl, fun W _ => by go_simp; exact wrapI _ (by omega) (by omega)⟩) hH ?_
      change wpAnyH _ _ _ _ _ _ _ (Act.put _ (some 20) _) _
      simp only [Act.put, List.setIfInBounds_toArray, List.set_cons_zero, List.set_cons_succ]
      refine wpAnyH_take (i := 4) (v := .int .i64 (k : Int)) rfl (by kernel_rfl) (by kernel_rfl) (by kernel_rfl) (fun _ _ _ h => h) (yl_move (by rfl) _ (by rfl) _ (by rfl)) hH ?_
      change wpAnyH _ _ _ _ _ _ _ (Act.put _ (some 21) _) _
      simp only [Act.put, List.setIfInBounds_toArray, List.set_cons_zero, List.set_cons_succ]
      refine wpAnyH_take (i := 5) (v := .int .i64 ((k : Int) / 8)) rfl (by kernel_rfl) (by kernel_rfl) (by kernel_rfl) (fun _ _ _ h => h) (.inl ⟨by rfl, fun W _ => by go_simp; exact wrapI _ (by omega) (by omega)⟩) hH ?_
      change wpAnyH _ _ _ _ _ _ _ (Act.put _ (some 22) _) _
      simp only [Act.put, List.setIfInBounds_toArray, List.set_cons_zero, List.set_cons_succ]
      refine wpAnyH_take (i := 6) (v := .int .i64 ((k : Int) / 8 + 1)) rfl (by kernel_rfl) (by kernel_rfl) (by kernel_rfl) (fun _ _ _ h => h) (.inl ⟨by rfl, fun W _ => by go_simp; exact wrapI _ (by omega) (by omega)⟩) hH ?_
      change wpAnyH _ _ _ _ _ _ _ (Act.put _ (some 23) _) _
      simp only [Act.put, List.setIfInBounds_toArray, List.set_cons_zero, List.set_cons_succ]
      refine wpAnyH_take (i := 7) (v := .string (nmS.extract (k / 8) (k / 8 + 1))) rfl (by kernel_rfl) (by kernel_rfl) (by kernel_rfl) (fun _ _ _ h => h) (yl_slice (by rfl) _ _ _ (by rfl) _ _ (by rfl) _ _ (by rfl) (by rfl) (fun W => run_mid nmS _ _ _ _ e1.out e2.out (by omega) s1.out W)) hH ?_
      change wpAnyH _ _ _ _ _ _ _ (Act.put _ (some 24) _) _
      simp only [Act.put, List.setIfInBounds_toArray, List.set_cons_zero, List.set_cons_succ]
      refine wpAnyH_take (i := 8) (v := .string ⟨#[97, 98, 99, 100, 101, 102, 103, 104]⟩) rfl (by kernel_rfl) (by kernel_rfl) (by kernel_rfl) (fun _ _ _ h => h) (yl_move (by rfl) _ (by rfl) _ (by rfl)) hH ?_
      change wpAnyH _ _ _ _ _ _ _ (Act.put _ (some 25) _) _
      simp only [Act.put, List.setIfInBounds_toArray, List.set_cons_zero, List.set_cons_succ]
      refine wpAnyH_take (i := 9) (v := .int .i64 (k : Int)) rfl (by kernel_rfl) (by kernel_rfl) (by kernel_rfl) (fun _ _ _ h => h) (yl_move (by rfl) _ (by rfl) _ (by rfl)) hH ?_
      change wpAnyH _ _ _ _ _ _ _ (Act.put _ (some 26) _) _
      simp only [Act.put, List.setIfInBounds_toArray, List.set_cons_zero, List.set_cons_succ]
      refine wpAnyH_take (i := 10) (v := .int .i64 ((k : Int) % 8)) rfl (by kernel_rfl) (by kernel_rfl) (by kernel_rfl) (fun _ _ _ h => h) (.inl ⟨by rfl, fun W _ => by go_simp; exact Int.tmod_eq_emod_of_nonneg (by omega)⟩) hH ?_
      change wpAnyH _ _ _ _ _ _ _ (Act.put _ (some 27) _) _
      simp only [Act.put, List.setIfInBounds_toArray, List.set_cons_zero, List.set_cons_succ]
      refine wpAnyH_take (i := 11) (v := .int .i64 (k : Int)) rfl (by kernel_rfl) (by kernel_rfl) (by kernel_rfl) (fun _ _ _ h => h) (yl_move (by rfl) _ (by rfl) _ (by rfl)) hH ?_
      change wpAnyH _ _ _ _ _ _ _ (Act.put _ (some 28) _) _
      simp only [Act.put, List.setIfInBounds_toArray, List.set_cons_zero, List.set_cons_succ]
      refine wpAnyH_take (i := 12) (v := .int .i64 ((k : Int) % 8)) rfl (by kernel_rfl) (by kernel_rfl) (by kernel_rfl) (fun _ _ _ h => h) (.inl ⟨by rfl, fun W _ => by go_simp; exact Int.tmod_eq_emod_of_nonneg (by omega)⟩) hH ?_
      change wpAnyH _ _ _ _ _ _ _ (Act.put _ (some 29) _) _
      simp only [Act.put, List.setIfInBounds_toArray, List.set_cons_zero, List.set_cons_succ]
      refine wpAnyH_take (i := 13) (v := .int .i64 ((k : Int) % 8 + 1)) rfl (by kernel_rfl) (by kernel_rfl) (by kernel_rfl) (fun _ _ _ h => h) (.inl ⟨by rfl, fun W _ => by go_simp; exact wrapI _ (by omega) (by omega)⟩) hH ?_
      change wpAnyH _ _ _ _ _ _ _ (Act.put _ (some 30) _) _
      simp only [Act.put, List.setIfInBounds_toArray, List.set_cons_zero, List.set_cons_succ]
      refine wpAnyH_take (i := 14) (v := .string (nmS.extract (k % 8) (k % 8 + 1))) rfl (by kernel_rfl) (by kernel_rfl) (by kernel_rfl) (fun _ _ _ h => h) (yl_slice (by rfl) _ _ _ (by rfl) _ _ (by rfl) _ _ (by rfl) (by rfl) (fun W => run_mid nmS _ _ _ _ e3.out e4.out (by omega) s2.out W)) hH ?_
      change wpAnyH _ _ _ _ _ _ _ (Act.put _ (some 31) _) _
      simp only [Act.put, List.setIfInBounds_toArray, List.set_cons_zero, List.set_cons_succ]
      refine wpAnyH_take (i := 15) (v := .string (nm2 k)) rfl (by kernel_rfl) (by kernel_rfl) (by kernel_rfl) (fun _ _ _ h => h) (.inl ⟨by rfl, fun W _ => by unfold nm2; go_simp; omega⟩) hH ?_
      change wpAnyH _ _ _ _ _ _ _ (Act.put _ (some 32) _) _
      simp only [Act.put, List.setIfInBounds_toArray, List.set_cons_zero, List.set_cons_succ]
      refine wpAnyH_ready (rs := [16]) (by kernel_rfl) (by simp) (AllReadyH.cons rfl (fun K1 hK1 => ?_) AllReadyH.nil)
      go_simp
      refine (HW.out _ J'.out.dk).mono ?_
      rintro e w5 ⟨rfl, hd⟩
      have J5 := hide (J'.out.step hd)
      clear hd
      refine hK1.out _ _ trivial (fun hH => ?_)
      clear hK1
      refine wpAnyH_take (i := 17) (v := .bool false) rfl (by kernel_rfl) (by kernel_rfl) (by kernel_rfl) (fun _ _ _ h => h) (.inl ⟨by rfl, fun W _ => by go_simp⟩) hH ?_
      change wpAnyH _ _ _ _ _ _ _ (Act.put _ (some 34) _) _
      simp only [Act.put, List.setIfInBounds_toArray, List.set_cons_zero, List.set_cons_succ]
      refine wpAnyH_done (by kernel_rfl) ?_ _
      go_wp2
      go_roundw
      case rel => exact ⟨k + 1, x2, _, by omega, by go_num, FI2, J5⟩
      case measure => simp [intOf]; omega
    · have hke : k = 64 := by omega
      subst hke
      have FN := hide FI.out.fin
      have HW0 : Hid (∀ W T, DK W gd x T → Calls Try.prog 16 #[.pointer (some ⟨gd, 0, none⟩), .string ⟨#[110, 101, 119]⟩, .int .i64 0, .string ⟨#[]⟩] W fun e w' => e = .returned (.int .i64 71) ∧ Below W.heap.size W w') := fun W T h => by
        have e := FI.out.full
        have := write_err gd x T nmN 0 nmE W h FI.out.vd.bd (nm_le nmN_name) (by decide) (by decide) (by decide) (by rw [e]; decide)
        rw [e] at this
        exact this
      have HW1 : Hid (∀ W T, DK W gd x T → Calls Try.prog 16 #[.pointer (some ⟨gd, 0, none⟩), .string ⟨#[97, 97]⟩, .int .i64 0, .string ⟨#[120]⟩] W fun e w' => e = .returned (.int .i64 0) ∧ DK w' gd (y1 x) (grow T W w') ∧ Fr T W w') := fun W T h => by
        have := write_ok gd x T (nm2 0) 0 ⟨#[120]⟩ W h FI.out.vd FI.out.plan (by rw [FI.out.dead]; exact rdy_of (nm2_name (by decide))) (Nat.zero_le _) (by decide) (.inl FN.out.h0) (by have := FN.out.l1; omega) (by have := FN.out.m1; omega)
        rw [← lit0]
        exact this
      have HR : Hid (∀ W T, DK W gd (y1 x) T → Calls Try.prog 17 #[.pointer (some ⟨gd, 0, none⟩), .string ⟨#[104, 104]⟩] W fun e w' => e = .returned (.int .i64 0) ∧ DK w' gd (y2 x) (grow T W w') ∧ Fr T W w') := fun W T h => by
        have l1 : (y1 x).loose.length < 10000 := by
          show (x.loose ++ [_]).length < 10000
          have := FN.out.l1
          simp
          omega
        have m1 : (y1 x).made < 1000000 := by
          show x.made + 1 < 1000000
          have := FN.out.m1
          omega
        have := remove_ok gd (y1 x) T (nm2 63) W h FN.out.v1 FI.out.plan FN.out.f1 (nm2_name (by decide)) l1 m1
        rw [← lit63]
        exact this
      have HW2 : Hid (∀ W T, DK W gd (y2 x) T → Calls Try.prog 16 #[.pointer (some ⟨gd, 0, none⟩), .string ⟨#[110, 101, 119]⟩, .int .i64 0, .string ⟨#[121]⟩] W fun e w' => e = .returned (.int .i64 0) ∧ DK w' gd (y3 x) (grow T W w') ∧ Fr T W w') := fun W T h => by
        have l2 : (y2 x).loose.length < 10000 := by
          show ((x.loose ++ [_]) ++ [_]).length < 10000
          have := FN.out.l1
          simp
          omega
        have m2 : (y2 x).made < 1000000 := by
          show x.made + 1 + 1 < 1000000
          have := FN.out.m1
          omega
        exact write_ok gd (y2 x) T nmN 0 ⟨#[121]⟩ W h FN.out.v2 FI.out.plan (by rw [show (y2 x).dead = false from FI.out.dead]; exact rdy_of nmN_name) (Nat.zero_le _) (by decide) (.inr FN.out.n2) l2 m2
      have HLo := hide fun W T (h : DB w W gd (y3 x) T) => long_any w W gd (y3 x) T h FN.out.lon
      generalize y3 x = z3 at *
      generalize y2 x = z2 at *
      generalize y1 x = z1 at *
      clear FN hk hlt FI
      by_cases hm : (more == 7) = true
      · have hm1 : (more == 7) = true := hm
        have hm2 : more = 7 := by simpa using hm
        subst hm2
        clear hm hm1
        go_wp2_with (first | (go_at_call_of 16 (Value.string ⟨#[]⟩); refine (HW0.out _ _ J.out.dk).mono ?_; rintro e w4 ⟨rfl, hb⟩; have J4 := hide (J.out.next hb); clear hb J) | (go_at_call_of 16 (Value.string ⟨#[120]⟩); refine (HW1.out _ _ J4.out.dk).mono ?_; rintro e w5 ⟨rfl, hd⟩; have J5 := hide (J4.out.step hd); clear hd J4) | (go_at_call 17; refine (HR.out _ _ J5.out.dk).mono ?_; rintro e w6 ⟨rfl, hd⟩; have J6 := hide (J5.out.step hd); clear hd J5) | (go_at_call_of 16 (Value.string ⟨#[121]⟩); refine (HW2.out _ _ J6.out.dk).mono ?_; rintro e w7 ⟨rfl, hd⟩; have J7 := hide (J6.out.step hd); clear hd J6) | (go_at_call 18; refine (HLo.out _ _ J7.out).mono ?_; rintro e w8 ⟨rfl, hb⟩; have B8 := hide hb; clear hb J7))
        go_ret
        exact ⟨rfl, B8.out⟩
      · have hm1 : (more == 7) = false := by simpa using hm
        have hm2 : ¬ more = 7 := by simpa using hm
        clear hm
        go_wp2_with (first | (go_at_call_of 16 (Value.string ⟨#[]⟩); refine (HW0.out _ _ J.out.dk).mono ?_; rintro e w4 ⟨rfl, hb⟩; have J4 := hide (J.out.next hb); clear hb J) | (go_at_call_of 16 (Value.string ⟨#[120]⟩); refine (HW1.out _ _ J4.out.dk).mono ?_; rintro e w5 ⟨rfl, hd⟩; have J5 := hide (J4.out.step hd); clear hd J4) | (go_at_call 17; refine (HR.out _ _ J5.out.dk).mono ?_; rintro e w6 ⟨rfl, hd⟩; have J6 := hide (J5.out.step hd); clear hd J5) | (go_at_call_of 16 (Value.string ⟨#[121]⟩); refine (HW2.out _ _ J6.out.dk).mono ?_; rintro e w7 ⟨rfl, hd⟩; have J7 := hide (J6.out.step hd); clear hd J6))
        go_ret
        exact ⟨rfl, J7.out.bel⟩
end
end Go.Proofs.Ytpjpgmfcmjdkbaa
