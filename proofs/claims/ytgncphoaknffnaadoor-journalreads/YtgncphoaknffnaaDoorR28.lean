/- Journals: the document's Read. The walk of JournalReads. -/
import Derived.Test.YtgncphoaknffnaaDoorR27
namespace Go.Proofs.YtgncphoaknffnaaDoor
open Go.RowKit
open Go.Deep
open Go.Lib
set_option linter.unusedVariables false
theorem sl_mid (s : ByteArray) (a b : Nat) (hab : a ≤ b) (hb : b ≤ s.size) (w : World) : (Instr.sliceAt 9 (.string s) (some (.int .i64 (a : Int))) (some (.int .i64 (b : Int))) none).run Tryd.prog w = .ok (.string (s.extract a b)) w := by
  simp [Instr.sliceAt, Instr.slice, run_underlying Tryd.underlying9, Instr.sliceBounds, Instr.sliceBound, asIntOf, hab, hb, Result.andThen]
theorem sl_to (s : ByteArray) (b : Nat) (hb : b ≤ s.size) (w : World) : (Instr.sliceAt 9 (.string s) none (some (.int .i64 (b : Int))) none).run Tryd.prog w = .ok (.string (s.extract 0 b)) w := by
  simp [Instr.sliceAt, Instr.slice, run_underlying Tryd.underlying9, Instr.sliceBounds, Instr.sliceBound, asIntOf, hb, Result.andThen]
theorem thE_eq (s : ByteArray) (h : 16 ≤ s.size) : thE s = leN (s.extract 8 16).data.toList := by
  unfold thE
  have e0 : rtake s 0 0 8 = (8, 0, s.extract 0 8) := by
    unfold rtake
    rw [if_neg (by simp), if_neg (by omega), if_neg (by omega)]
    rfl
  rw [e0]
  show leN (rtake s 8 0 8).2.2.data.toList = _
  unfold rtake
  rw [if_neg (by simp), if_neg (by omega), if_neg (by omega)]
  rfl
theorem bs0S (w : World) : (Instr.buildSlice 30 0 #[]).run Tryd.prog w = .ok (.slice (some ⟨w.heap.size, 0, none⟩) 0 0) (w.alloc (.cells #[] 9)) := by kernel_rfl
theorem thE_lt (s : ByteArray) : U64 (thE s) := by
  have i1 := rtake_inv s 0 0 8 (by omega) (by omega)
  have z2 := rtake_size s (rtake s 0 0 8).1 (rtake s 0 0 8).2.1 8 8 rfl i1.1
  unfold U64 thE
  exact leN_lt' _ 8 _ (by simpa using z2) (by decide)
section
set_option maxRecDepth 10000
set_option maxHeartbeats 2000000
theorem rreadJ_short (s : ByteArray) (hs : s.size < 20) (w : World) : Calls Tryd.prog 12 #[.string s] w fun e w' => e = .returned (.tuple #[.int .u64 0, .slice none 0 0, .int .i64 0, .bool false]) ∧ Below w.heap.size w w' := by
  have h : (s.size : Int) < 20 := by omega
  go_enter Tryd.func12, Tryd.ntmps12
  go_wp2
  (try simp only [Exit.inBlock, Exit.then])
  refine bodyPost_ret (results_tmp4 rfl _ _ _) rfl ?_
  exact ⟨rfl, Below.refl _ _⟩
theorem rreadJ_no (s : ByteArray) (hs : s.size ≤ 140737488351232) (w : World) (hp : pfx s (txt (headL (thE s))) = false) : Calls Tryd.prog 12 #[.string s] w fun e w' => e = .returned (.tuple #[.int .u64 0, .slice none 0 0, .int .i64 0, .bool false]) ∧ Below w.heap.size w w' := by
  by_cases h20 : s.size < 20
  · exact rreadJ_short s h20 w
  have HK := hide fun W => rtakeJ_any (s.extract 8 16) W (by simp; omega)
  rw [← thE_eq s (by omega)] at HK
  have HH := hide fun W => rheadJ_any (thE s) (thE_lt s) W
  have hne : ((s.extract 0 20).toList == (txt (headL (thE s))).toList) = false := by
    unfold pfx at hp
    rw [txtJ_size, headL_len, decide_eq_true (by omega : 20 ≤ s.size), Bool.true_and] at hp
    exact hp
  have s1 := fun W => sl_mid s 8 16 (by omega) (by omega) W
  have s2 := fun W => sl_to s 20 (by omega) W
  have h : ¬ (s.size : Int) < 20 := by omega
  generalize txt (headL (thE s)) = hd at *
  generalize thE s = ep at *
  clear hp
  go_enter Tryd.func12, Tryd.ntmps12
  go_upto_region 4 with (go_at_call 39; with_reducible refine (HK.out _).mono ?_; rintro e w1 ⟨rfl, hw⟩; subst w1)
  go_region_with (first | (go_at_call 9; with_reducible refine (HH.out _).mono ?_; rintro e w2 ⟨rfl, b2⟩; have B2 := hide b2; clear b2))
  go_wp2
  (try simp only [Exit.inBlock, Exit.then])
  refine bodyPost_ret (results_tmp4 rfl _ _ _) rfl ?_
  exact ⟨rfl, (Below.refl w.heap.size w).drew.trans B2.out⟩
theorem rreadJ_yes (s : ByteArray) (hs : s.size ≤ 140737488351232) (w : World) (hp : pfx s (txt (headL (thE s))) = true) : Calls Tryd.prog 12 #[.string s] w fun e w' => ∃ v L a, e = .returned (.tuple #[.int .u64 (thE s), v, .int .i64 ((s.size : Int) - (a : Nat)), .bool true]) ∧ RdJ w w' s (thE s) v L a := by
  have h20 := ((pfx_iff _ _).1 hp).1
  rw [txtJ_size, headL_len] at h20
  have HK := hide fun W => rtakeJ_any (s.extract 8 16) W (by simp; omega)
  rw [← thE_eq s (by omega)] at HK
  have HH := hide fun W => rheadJ_any (thE s) (thE_lt s) W
  have hne : ((s.extract 0 20).toList == (txt (headL (thE s))).toList) = true := by
    unfold pfx at hp
    rw [txtJ_size, headL_len, decide_eq_true (by omega : 20 ≤ s.size), Bool.true_and] at hp
    exact hp
  have s1 := fun W => sl_mid s 8 16 (by omega) (by omega) W
  have s2 := fun W => sl_to s 20 (by omega) W
  have h : ¬ (s.size : Int) < 20 := by omega
  have hU := hide (thE_lt s)
  generalize txt (headL (thE s)) = hd at *
  generalize thE s = ep at *
  have hsl : s.data.toList.length = s.size := by simp
  have FA := hide (stJ_facts ep s.data.toList (by rw [hsl]; exact h20))
  rw [hsl] at FA
  have HS := hide hs
  clear hp hsl
  go_enter Tryd.func12, Tryd.ntmps12
  go_upto_region 4 with (go_at_call 39; with_reducible refine (HK.out _).mono ?_; rintro e w1 ⟨rfl, hw⟩; subst w1)
  go_region_with (first | (go_at_call 9; with_reducible refine (HH.out _).mono ?_; rintro e w2 ⟨rfl, b2⟩; have B2 := hide b2; clear b2))
  have hb0 := bs0S w2
  have BW := hide ((Below.refl w.heap.size w).drew.trans B2.out)
  have B3 := hide (BW.out.alloc BW.out.size (.cells #[] 9))
  have F3 := hide BW.out.size
  have O3 : Hid (OX KS (w2.alloc (.cells #[] 9)) (.slice (some ⟨w2.heap.size, 0, none⟩) 0 0) []) := World.ownsRow_made w2 #[] 0 (Nat.zero_le _) (Nat.zero_le _) rfl
  clear HK HH hne s1 s2 h hs B2 BW
  go_upto_region 8 with fail
  clear hb0
  generalize w2.alloc (.cells #[] 9) = W0 at *
  generalize w2.heap.size = g0 at *
  go_loopw [7, 8] (fun v i wr => ∃ (k : Nat) (L : List (List UInt8)) (a : Nat), i = .int .i64 (a : Int) ∧ Hid (stJ ep s.data.toList k = some (L, a)) ∧ OX KS wr v (L.map txt) ∧ Hid (∀ g, v.ownBlock = some g → w.heap.size ≤ g) ∧ Hid (Below w.heap.size w wr)) (fun _ i _ => (s.size - intOf i).toNat)
  case atStart => exact ⟨0, [], 20, rfl, rfl, O3.out, (fun g hg => by cases hg; exact F3.out), B3⟩
  case round =>
    clear O3 F3 B3
    obtain ⟨k, L, a, rfl, ST, ho, FR, BL⟩ := hrel
    obtain ⟨rfl, f2, f3⟩ := FA.out k L a ST.out
    have hs := HS.out
    obtain ⟨ao, cc, rfl⟩ := ho.form
    have hLm : (L.map txt).length = L.length := by simp
    rw [hLm] at ho FR ⊢
    have HO := hide ho
    clear ho hLm
    have hsl : s.data.toList.length = s.size := by simp
    have e0 : IntKind.i64.wrap ((s.size : Int) - (a : Int)) = (s.size : Int) - (a : Int) := wrapI _ (by omega) (by omega)
    by_cases h16 : s.size < a + 16
    · have EN := hide (stJ_end ST.out (by unfold rdRec; rw [if_neg (by rw [List.length_drop, hsl]; omega)]))
      have c1 : ¬ (16 : Int) ≤ (s.size : Int) - (a : Int) := by omega
      clear hsl
      go_wp2
      (try simp only [Exit.inBlock, Exit.then])
      refine bodyPost_ret (results_tmp4 rfl _ _ _) rfl ?_
      exact ⟨_, L, a, rfl, ⟨⟨_, ST.out, EN.out⟩, HO.out, FR.out, BL.out⟩⟩
    · have c1 : (16 : Int) ≤ (s.size : Int) - (a : Int) := by omega
      have e4 : IntKind.i64.wrap ((a : Int) + 4) = ((a + 4 : Nat) : Int) := wrapI _ (by omega) (by omega)
      have s4 := sl_mid s a (a + 4) (by omega) (by omega) wr
      have HK := hide (rtakeJ_any (s.extract a (a + 4)) wr (by simp; omega))
      have hx4 : (s.extract a (a + 4)).data.toList = (s.data.toList.drop a).take 4 := by rw [exJ, show a + 4 - a = 4 by omega]
      rw [hx4] at HK
      clear hx4
      have hn4 := leN_lt' ((s.data.toList.drop a).take 4) 4 4294967296 (by rw [List.length_take]; omega) (by decide)
      have RD : Hid (∀ no, rdRec ep no (s.data.toList.drop a) = if 16 + leN ((s.data.toList.drop a).take 4) ≤ s.size - a ∧ leN ((s.data.toList.drop a).take 4) ≤ 65536 ∧ (s.data.toList.drop a).take (16 + leN ((s.data.toList.drop a).take 4)) = recL ep no (((s.data.toList.drop a).drop 12).take (leN ((s.data.toList.drop a).take 4))) then some (((s.data.toList.drop a).drop 12).take (leN ((s.data.toList.drop a).take 4))) else none) := fun no => by
        unfold rdRec
        rw [List.length_drop, hsl]
      generalize leN ((s.data.toList.drop a).take 4) = n at *
      have e5 : IntKind.i64.wrap ((s.size : Int) - (a : Int) - 16) = (s.size : Int) - (a : Int) - 16 := wrapI _ (by omega) (by omega)
      have e6 : IntKind.u64.wrap ((s.size : Int) - (a : Int) - 16) = (s.size : Int) - (a : Int) - 16 := wrapu _ (by omega) (by omega)
      by_cases hbig : 65536 < n
      · have EN := hide (stJ_end ST.out (by rw [RD.out, if_neg (by omega)]))
        have c2 : (65536 : Int) < (n : Int) := by omega
        clear hsl RD
        go_wp2_with (go_at_call 39; with_reducible refine HK.out.mono ?_; rintro e w1 ⟨rfl, hw⟩; subst w1)
        (try simp only [Exit.inBlock, Exit.then])
        refine bodyPost_ret (results_tmp4 rfl _ _ _) rfl ?_
        exact ⟨_, L, a, rfl, ⟨⟨_, ST.out, EN.out⟩, HO.out, FR.out, BL.out⟩⟩
      · have c2 : ¬ (65536 : Int) < (n : Int) := by omega
        by_cases hcut : s.size - a < 16 + n
        · have EN := hide (stJ_end ST.out (by rw [RD.out, if_neg (by omega)]))
          have c3 : (s.size : Int) - (a : Int) - 16 < (n : Int) := by omega
          clear hsl RD
          go_wp2_with (go_at_call 39; with_reducible refine HK.out.mono ?_; rintro e w1 ⟨rfl, hw⟩; subst w1)
          (try simp only [Exit.inBlock, Exit.then])
          refine bodyPost_ret (results_tmp4 rfl _ _ _) rfl ?_
          exact ⟨_, L, a, rfl, ⟨⟨_, ST.out, EN.out⟩, HO.out, FR.out, BL.out⟩⟩
        · have c3 : ¬ (s.size : Int) - (a : Int) - 16 < (n : Int) := by omega
          have e7 : IntKind.i64.wrap ((a : Int) + 12) = ((a + 12 : Nat) : Int) := wrapI _ (by omega) (by omega)
          have e8 : IntKind.i64.wrap (n : Int) = (n : Int) := wrapI _ (by omega) (by omega)
          have e9 : IntKind.i64.wrap (((a + 12 : Nat) : Int) + (n : Int)) = ((a + 12 + n : Nat) : Int) := wrapI _ (by omega) (by omega)
          have s5 := sl_mid s (a + 12) (a + 12 + n) (by omega) (by omega) wr
          go_upto_region 12 with (go_at_call 39; with_reducible refine HK.out.mono ?_; rintro e w1 ⟨rfl, hw⟩; subst w1)
          have hxl : (s.extract (a + 12) (a + 12 + n)).data.toList = ((s.data.toList.drop a).drop 12).take n := by rw [exJ, show a + 12 + n - (a + 12) = n by omega, List.drop_drop]
          have hxz : (s.extract (a + 12) (a + 12 + n)).size = n := by simp; omega
          have HR := hide fun W => rrecJ_any ep L.length hU.out (by unfold U64; omega) (s.extract (a + 12) (a + 12 + n)) (by omega) W
          have e10 : IntKind.i64.wrap ((a : Int) + 16) = (a : Int) + 16 := wrapI _ (by omega) (by omega)
          have e11 : IntKind.i64.wrap ((a : Int) + 16 + (n : Int)) = (a : Int) + 16 + (n : Int) := wrapI _ (by omega) (by omega)
          have e12 : IntKind.u64.wrap (L.length : Int) = (L.length : Int) := wrapu _ (by omega) (by omega)
          have e13 : IntKind.i64.wrap (16 + (n : Int)) = 16 + (n : Int) := wrapI _ (by omega) (by omega)
          have e14 : IntKind.i64.wrap ((a : Int) + (16 + (n : Int))) = (a : Int) + (16 + (n : Int)) := wrapI _ (by omega) (by omega)
          have s6 := fun W => sl_mid s a (a + 16 + n) (by omega) (by omega) W
          rw [show ((a + 16 + n : Nat) : Int) = (a : Int) + 16 + (n : Int) by omega] at s6
          have q1 : (a : Int) ≤ (a : Int) + 16 + (n : Int) := by omega
          have q2 : (a : Int) + 16 + (n : Int) ≤ s.size := by omega
          have q0 : (0 : Int) ≤ (a : Int) := by omega
          have q3 : a ≤ a + 16 + n := by omega
          have q4 : a + 16 + n ≤ s.size := by omega
          have hql : (s.extract a (a + 16 + n)).data.toList = (s.data.toList.drop a).take (16 + n) := by rw [exJ, show a + 16 + n - a = 16 + n by omega]
          have hxt : s.extract (a + 12) (a + 12 + n) = txt (((s.data.toList.drop a).drop 12).take n) := by rw [← hxl, txtJ_of]
          rw [hxl] at HR
          have hyl : (((s.data.toList.drop a).drop 12).take n).length = n := by
            rw [List.length_take, List.length_drop, List.length_drop, hsl]
            omega
          have RN := hide (RD.out L.length)
          have hbr : ((s.extract a (a + 16 + n)).toList == (txt (recL ep L.length (((s.data.toList.drop a).drop 12).take n))).toList) = decide ((s.data.toList.drop a).take (16 + n) = recL ep L.length (((s.data.toList.drop a).drop 12).take n)) := by
            rw [Lib.toList_data, Lib.toList_data, hql, txtJ_list, Bool.eq_iff_iff]
            simp
          generalize s.extract (a + 12) (a + 12 + n) = x at *
          generalize ((s.data.toList.drop a).drop 12).take n = y at *
          subst hxt
          have HB := hide hbr
          clear hbr hxl hql RD hxz s5 s4 HK
          by_cases heq : (s.data.toList.drop a).take (16 + n) = recL ep L.length y
          · have hbt : ((s.extract a (a + 16 + n)).toList == (txt (recL ep L.length y)).toList) = true := by rw [HB.out]; exact decide_eq_true heq
            have NX := hide (stJ_next ST.out (by rw [RN.out, if_pos ⟨by omega, by omega, heq⟩]))
            rw [hyl] at NX
            clear HB heq RN
            generalize txt (recL ep L.length y) = rt at *
            refine wp_region_held_drew (S := fun W => Below wr.heap.size wr W) (by kernel_rfl) (Below.refl _ _).drew (fun hH => ?_)
            refine wpAnyH_take (i := 0) (v := .string s) rfl (by kernel_rfl) (by kernel_rfl) (by kernel_rfl) (fun _ _ _ h => h) (yl_move (by rfl) _ (by rfl) _ (by rfl)) hH ?_
            change wpAnyH _ _ _ _ _ _ _ (Act.put _ (some 55) _) _
            simp only [Act.put, List.setIfInBounds_toArray, List.set_cons_zero, List.set_cons_succ]
            refine wpAnyH_take (i := 1) (v := .int .i64 (a : Int)) rfl (by kernel_rfl) (by kernel_rfl) (by kernel_rfl) (fun _ _ _ h => h) (yl_move (by rfl) _ (by rfl) _ (by rfl)) hH ?_
            change wpAnyH _ _ _ _ _ _ _ (Act.put _ (some 56) _) _
            simp only [Act.put, List.setIfInBounds_toArray, List.set_cons_zero, List.set_cons_succ]
            refine wpAnyH_take (i := 2) (v := .int .i64 (a : Int)) rfl (by kernel_rfl) (by kernel_rfl) (by kernel_rfl) (fun _ _ _ h => h) (yl_move (by rfl) _ (by rfl) _ (by rfl)) hH ?_
            change wpAnyH _ _ _ _ _ _ _ (Act.put _ (some 57) _) _
            simp only [Act.put, List.setIfInBounds_toArray, List.set_cons_zero, List.set_cons_succ]
            refine wpAnyH_take (i := 3) (v := .int .i64 ((a : Int) + 16)) rfl (by kernel_rfl) (by kernel_rfl) (by kernel_rfl) (fun _ _ _ h => h) (.inl ⟨by rfl, fun W _ => by go_simp⟩) hH ?_
            change wpAnyH _ _ _ _ _ _ _ (Act.put _ (some 58) _) _
            simp only [Act.put, List.setIfInBounds_toArray, List.set_cons_zero, List.set_cons_succ]
            refine wpAnyH_take (i := 4) (v := .int .u64 (n : Int)) rfl (by kernel_rfl) (by kernel_rfl) (by kernel_rfl) (fun _ _ _ h => h) (yl_move (by rfl) _ (by rfl) _ (by rfl)) hH ?_
            change wpAnyH _ _ _ _ _ _ _ (Act.put _ (some 59) _) _
            simp only [Act.put, List.setIfInBounds_toArray, List.set_cons_zero, List.set_cons_succ]
            refine wpAnyH_take (i := 5) (v := .int .i64 (n : Int)) rfl (by kernel_rfl) (by kernel_rfl) (by kernel_rfl) (fun _ _ _ h => h) (.inl ⟨by rfl, fun W _ => by go_simp⟩) hH ?_
            change wpAnyH _ _ _ _ _ _ _ (Act.put _ (some 60) _) _
            simp only [Act.put, List.setIfInBounds_toArray, List.set_cons_zero, List.set_cons_succ]
            refine wpAnyH_take (i := 6) (v := .int .i64 ((a : Int) + 16 + (n : Int))) rfl (by kernel_rfl) (by kernel_rfl) (by kernel_rfl) (fun _ _ _ h => h) (.inl ⟨by rfl, fun W _ => by go_simp⟩) hH ?_
            change wpAnyH _ _ _ _ _ _ _ (Act.put _ (some 61) _) _
            simp only [Act.put, List.setIfInBounds_toArray, List.set_cons_zero, List.set_cons_succ]
            refine wpAnyH_take (i := 7) (v := .string (s.extract a (a + 16 + n))) rfl (by kernel_rfl) (by kernel_rfl) (by kernel_rfl) (fun _ _ _ h => h) (yl_slice (by rfl) _ _ _ (by rfl) _ _ (by rfl) _ _ (by rfl) (by rfl) s6) hH ?_
            change wpAnyH _ _ _ _ _ _ _ (Act.put _ (some 62) _) _
            simp only [Act.put, List.setIfInBounds_toArray, List.set_cons_zero, List.set_cons_succ]
            refine wpAnyH_take (i := 8) (v := .int .u64 (ep : Int)) rfl (by kernel_rfl) (by kernel_rfl) (by kernel_rfl) (fun _ _ _ h => h) (yl_move (by rfl) _ (by rfl) _ (by rfl)) hH ?_
            change wpAnyH _ _ _ _ _ _ _ (Act.put _ (some 63) _) _
            simp only [Act.put, List.setIfInBounds_toArray, List.set_cons_zero, List.set_cons_succ]
            refine wpAnyH_take (i := 9) (v := .slice ao L.length cc) rfl (by kernel_rfl) (by kernel_rfl) (by kernel_rfl) (fun _ _ _ h => h) (yl_move (by rfl) _ (by rfl) _ (by rfl)) hH ?_
            change wpAnyH _ _ _ _ _ _ _ (Act.put _ (some 64) _) _
            simp only [Act.put, List.setIfInBounds_toArray, List.set_cons_zero, List.set_cons_succ]
            refine wpAnyH_take (i := 10) (v := .int .i64 (L.length : Int)) rfl (by kernel_rfl) (by kernel_rfl) (by kernel_rfl) (fun _ _ _ h => h) (.inl ⟨by rfl, fun W _ => by go_simp⟩) hH ?_
            change wpAnyH _ _ _ _ _ _ _ (Act.put _ (some 65) _) _
            simp only [Act.put, List.setIfInBounds_toArray, List.set_cons_zero, List.set_cons_succ]
            refine wpAnyH_take (i := 11) (v := .int .u64 (L.length : Int)) rfl (by kernel_rfl) (by kernel_rfl) (by kernel_rfl) (fun _ _ _ h => h) (.inl ⟨by rfl, fun W _ => by go_simp⟩) hH ?_
            change wpAnyH _ _ _ _ _ _ _ (Act.put _ (some 66) _) _
            simp only [Act.put, List.setIfInBounds_toArray, List.set_cons_zero, List.set_cons_succ]
            refine wpAnyH_take (i := 12) (v := .string (txt y)) rfl (by kernel_rfl) (by kernel_rfl) (by kernel_rfl) (fun _ _ _ h => h) (yl_move (by rfl) _ (by rfl) _ (by rfl)) hH ?_
            change wpAnyH _ _ _ _ _ _ _ (Act.put _ (some 67) _) _
            simp only [Act.put, List.setIfInBounds_toArray, List.set_cons_zero, List.set_cons_succ]
            refine wpAnyH_ready (rs := [13]) (by kernel_rfl) (by simp) (AllReadyH.cons rfl (fun K1 hK1 => ?_) AllReadyH.nil)
            go_simp
            with_reducible refine (HR.out _).mono ?_
            rintro e w2 ⟨rfl, b2⟩
            have B2 := hide b2
            clear b2
            refine hK1.out _ _ ((Below.refl wr.heap.size wr).drew.trans B2.out) (fun hH => ?_)
            clear hK1
            refine wpAnyH_take (i := 14) (v := .bool false) rfl (by kernel_rfl) (by kernel_rfl) (by kernel_rfl) (fun _ _ _ h => h) (.inl ⟨by rfl, fun W _ => by go_simp⟩) hH ?_
            change wpAnyH _ _ _ _ _ _ _ (Act.put _ (some 69) _) _
            simp only [Act.put, List.setIfInBounds_toArray, List.set_cons_zero, List.set_cons_succ]
            refine wpAnyH_done (by kernel_rfl) ?_ _
            go_upto_region 13 with fail
            have hbs := bsS w2 (txt y)
            have BB := hide ((Below.refl wr.heap.size wr).drew.trans B2.out)
            have HA := hide (HO.out.below (BB.out.alloc BB.out.size (.cells #[.string (txt y)] 9)))
            clear hbt s6 HR
            go_wp2_with (at_builtin; refine wpAppS rfl _ _ rfl (.slice ao L.length cc) (L.map txt) rfl HA.out ⟨_, 0, none⟩ 1 1 [txt y] rfl rfl (one_newX (E := KS) w2 (txt y)) (by rw [List.length_map]; omega) (by rw [List.length_map]; unfold maxLen; omega) ?_; intro v' W3 ho3 on3; obtain ⟨ao', cc', rfl⟩ := ho3.form; have H3 := hide ho3; have O3 := hide on3; clear ho3 on3)
            have OF := hide (onto_far O3.out FR.out ((below_next BL.out BB.out).alloc (below_next BL.out BB.out).size _))
            rw [show (L.map txt ++ [txt y]).length = L.length + 1 by simp] at OF
            go_roundw
            case rel =>
              refine ⟨L.length + 1, L ++ [y], a + (16 + n), by go_num, NX, ?_, OF.out.1, OF.out.2⟩
              have h4 := H3.out
              rw [show (L.map txt ++ [txt y]).length = L.length + 1 by simp] at h4
              rw [List.map_append]
              exact h4
            case measure => simp [intOf]; omega
          · have hbt : ((s.extract a (a + 16 + n)).toList == (txt (recL ep L.length y)).toList) = false := by rw [HB.out]; exact decide_eq_false heq
            have EN := hide (stJ_end ST.out (by rw [RN.out, if_neg (fun c => heq c.2.2)]))
            clear HB heq RN
            generalize txt (recL ep L.length y) = rt at *
            refine wp_region_held_drew (S := fun W => Below wr.heap.size wr W) (by kernel_rfl) (Below.refl _ _).drew (fun hH => ?_)
            refine wpAnyH_take (i := 0) (v := .string s) rfl (by kernel_rfl) (by kernel_rfl) (by kernel_rfl) (fun _ _ _ h => h) (yl_move (by rfl) _ (by rfl) _ (by rfl)) hH ?_
            change wpAnyH _ _ _ _ _ _ _ (Act.put _ (some 55) _) _
            simp only [Act.put, List.setIfInBounds_toArray, List.set_cons_zero, List.set_cons_succ]
            refine wpAnyH_take (i := 1) (v := .int .i64 (a : Int)) rfl (by kernel_rfl) (by kernel_rfl) (by kernel_rfl) (fun _ _ _ h => h) (yl_move (by rfl) _ (by rfl) _ (by rfl)) hH ?_
            change wpAnyH _ _ _ _ _ _ _ (Act.put _ (some 56) _) _
            simp only [Act.put, List.setIfInBounds_toArray, List.set_cons_zero, List.set_cons_succ]
            refine wpAnyH_take (i := 2) (v := .int .i64 (a : Int)) rfl (by kernel_rfl) (by kernel_rfl) (by kernel_rfl) (fun _ _ _ h => h) (yl_move (by rfl) _ (by rfl) _ (by rfl)) hH ?_
            change wpAnyH _ _ _ _ _ _ _ (Act.put _ (some 57) _) _
            simp only [Act.put, List.setIfInBounds_toArray, List.set_cons_zero, List.set_cons_succ]
            refine wpAnyH_take (i := 3) (v := .int .i64 ((a : Int) + 16)) rfl (by kernel_rfl) (by kernel_rfl) (by kernel_rfl) (fun _ _ _ h => h) (.inl ⟨by rfl, fun W _ => by go_simp⟩) hH ?_
            change wpAnyH _ _ _ _ _ _ _ (Act.put _ (some 58) _) _
            simp only [Act.put, List.setIfInBounds_toArray, List.set_cons_zero, List.set_cons_succ]
            refine wpAnyH_take (i := 4) (v := .int .u64 (n : Int)) rfl (by kernel_rfl) (by kernel_rfl) (by kernel_rfl) (fun _ _ _ h => h) (yl_move (by rfl) _ (by rfl) _ (by rfl)) hH ?_
            change wpAnyH _ _ _ _ _ _ _ (Act.put _ (some 59) _) _
            simp only [Act.put, List.setIfInBounds_toArray, List.set_cons_zero, List.set_cons_succ]
            refine wpAnyH_take (i := 5) (v := .int .i64 (n : Int)) rfl (by kernel_rfl) (by kernel_rfl) (by kernel_rfl) (fun _ _ _ h => h) (.inl ⟨by rfl, fun W _ => by go_simp⟩) hH ?_
            change wpAnyH _ _ _ _ _ _ _ (Act.put _ (some 60) _) _
            simp only [Act.put, List.setIfInBounds_toArray, List.set_cons_zero, List.set_cons_succ]
            refine wpAnyH_take (i := 6) (v := .int .i64 ((a : Int) + 16 + (n : Int))) rfl (by kernel_rfl) (by kernel_rfl) (by kernel_rfl) (fun _ _ _ h => h) (.inl ⟨by rfl, fun W _ => by go_simp⟩) hH ?_
            change wpAnyH _ _ _ _ _ _ _ (Act.put _ (some 61) _) _
            simp only [Act.put, List.setIfInBounds_toArray, List.set_cons_zero, List.set_cons_succ]
            refine wpAnyH_take (i := 7) (v := .string (s.extract a (a + 16 + n))) rfl (by kernel_rfl) (by kernel_rfl) (by kernel_rfl) (fun _ _ _ h => h) (yl_slice (by rfl) _ _ _ (by rfl) _ _ (by rfl) _ _ (by rfl) (by rfl) s6) hH ?_
            change wpAnyH _ _ _ _ _ _ _ (Act.put _ (some 62) _) _
            simp only [Act.put, List.setIfInBounds_toArray, List.set_cons_zero, List.set_cons_succ]
            refine wpAnyH_take (i := 8) (v := .int .u64 (ep : Int)) rfl (by kernel_rfl) (by kernel_rfl) (by kernel_rfl) (fun _ _ _ h => h) (yl_move (by rfl) _ (by rfl) _ (by rfl)) hH ?_
            change wpAnyH _ _ _ _ _ _ _ (Act.put _ (some 63) _) _
            simp only [Act.put, List.setIfInBounds_toArray, List.set_cons_zero, List.set_cons_succ]
            refine wpAnyH_take (i := 9) (v := .slice ao L.length cc) rfl (by kernel_rfl) (by kernel_rfl) (by kernel_rfl) (fun _ _ _ h => h) (yl_move (by rfl) _ (by rfl) _ (by rfl)) hH ?_
            change wpAnyH _ _ _ _ _ _ _ (Act.put _ (some 64) _) _
            simp only [Act.put, List.setIfInBounds_toArray, List.set_cons_zero, List.set_cons_succ]
            refine wpAnyH_take (i := 10) (v := .int .i64 (L.length : Int)) rfl (by kernel_rfl) (by kernel_rfl) (by kernel_rfl) (fun _ _ _ h => h) (.inl ⟨by rfl, fun W _ => by go_simp⟩) hH ?_
            change wpAnyH _ _ _ _ _ _ _ (Act.put _ (some 65) _) _
            simp only [Act.put, List.setIfInBounds_toArray, List.set_cons_zero, List.set_cons_succ]
            refine wpAnyH_take (i := 11) (v := .int .u64 (L.length : Int)) rfl (by kernel_rfl) (by kernel_rfl) (by kernel_rfl) (fun _ _ _ h => h) (.inl ⟨by rfl, fun W _ => by go_simp⟩) hH ?_
            change wpAnyH _ _ _ _ _ _ _ (Act.put _ (some 66) _) _
            simp only [Act.put, List.setIfInBounds_toArray, List.set_cons_zero, List.set_cons_succ]
            refine wpAnyH_take (i := 12) (v := .string (txt y)) rfl (by kernel_rfl) (by kernel_rfl) (by kernel_rfl) (fun _ _ _ h => h) (yl_move (by rfl) _ (by rfl) _ (by rfl)) hH ?_
            change wpAnyH _ _ _ _ _ _ _ (Act.put _ (some 67) _) _
            simp only [Act.put, List.setIfInBounds_toArray, List.set_cons_zero, List.set_cons_succ]
            refine wpAnyH_ready (rs := [13]) (by kernel_rfl) (by simp) (AllReadyH.cons rfl (fun K1 hK1 => ?_) AllReadyH.nil)
            go_simp
            with_reducible refine (HR.out _).mono ?_
            rintro e w2 ⟨rfl, b2⟩
            have B2 := hide b2
            clear b2
            refine hK1.out _ _ ((Below.refl wr.heap.size wr).drew.trans B2.out) (fun hH => ?_)
            clear hK1
            refine wpAnyH_take (i := 14) (v := .bool true) rfl (by kernel_rfl) (by kernel_rfl) (by kernel_rfl) (fun _ _ _ h => h) (.inl ⟨by rfl, fun W _ => by go_simp⟩) hH ?_
            change wpAnyH _ _ _ _ _ _ _ (Act.put _ (some 69) _) _
            simp only [Act.put, List.setIfInBounds_toArray, List.set_cons_zero, List.set_cons_succ]
            refine wpAnyH_done (by kernel_rfl) ?_ _
            have BB := hide ((Below.refl wr.heap.size wr).drew.trans B2.out)
            go_wp2
            (try simp only [Exit.inBlock, Exit.then])
            refine bodyPost_ret (results_tmp4 rfl _ _ _) rfl ?_
            exact ⟨_, L, a, rfl, ⟨⟨_, ST.out, EN.out⟩, HO.out.below BB.out, FR.out, below_next BL.out BB.out⟩⟩
end
end Go.Proofs.YtgncphoaknffnaaDoor
namespace Go.Proofs.YtgncphoaknffnaaDoor
open Go.RowKit
open Go.Deep
open Go.Lib
set_option linter.unusedVariables false
section
set_option maxRecDepth 10000
set_option maxHeartbeats 2000000
theorem journalReads_walk (s : ByteArray) (hs : s.size ≤ 140737488351232) (w : World) (hK : Kg w) : Calls Tryd.prog 4 #[.string s] w fun e w' => e = .returned (.bool true) ∧ Below w.heap.size w w' := by
  have HA := hide fun W (b : Below w.heap.size w W) => awakeJ_any W (hK.next b)
  cases hp : pfx s (txt (headL (thE s))) with
  | false =>
    have HR := hide (readJ_no s (by unfold maxLen; omega) w hK hp)
    have HD := hide fun W => rreadJ_no s hs W hp
    clear hp hs hK
    go_enter Tryd.func4, Tryd.ntmps4
    go_wp2_with (first | (go_at_call 11; refine HR.out.mono ?_; rintro e w1 ⟨rfl, b1⟩; have B1 := hide b1; clear b1) | (go_at_call 12; refine (HD.out _).mono ?_; rintro e w2 ⟨rfl, b2⟩; have B2 := hide (below_next B1.out b2); clear b2) | (go_at_call 7; refine (HA.out _ B2.out).mono ?_; rintro e w3 ⟨rfl, b3⟩; have B3 := hide (below_next B2.out b3); clear b3))
    go_ret
    exact ⟨rfl, B3.out⟩
  | true =>
    have HR := hide (readJ_yes s hs w hK hp)
    have HD := hide fun W => rreadJ_yes s hs W hp
    have hsl : s.data.toList.length = s.size := by simp
    have h20 : 20 ≤ s.data.toList.length := by
      have := ((pfx_iff _ _).1 hp).1
      rw [txtJ_size, headL_len] at this
      omega
    have FA := hide (stJ_facts (thE s) s.data.toList h20)
    rw [hsl] at FA
    have HS := hide hs
    generalize thE s = ep at *
    clear hp hs hK hsl h20
    go_enter Tryd.func4, Tryd.ntmps4
    go_upto_region 2 with (go_at_call 11; refine HR.out.mono ?_; rintro e w1 ⟨v, L, a, rfl, r1⟩; have R1 := hide r1; clear r1)
    go_upto_region 3 with (go_at_call 12; refine (HD.out _).mono ?_; rintro e w2 ⟨u, L', a', rfl, r2⟩; have R2 := hide r2; clear r2)
    obtain ⟨k1, p1, p2⟩ := R1.out.st
    obtain ⟨k2, p3, p4⟩ := R2.out.st
    have hone := stJ_one p1 p2 p3 p4
    cases hone
    obtain ⟨f1, f2, f3⟩ := FA.out _ _ _ p1
    have hs := HS.out
    have B2 := hide (below_next R1.out.bel R2.out.bel)
    have O1 := hide (R1.out.own.below R2.out.bel)
    have O2 := hide R2.out.own
    have HM := hide fun W (b : Below w2.heap.size w2 W) => same_yes (L.map txt) v u W (O1.out.below b).read (O2.out.below b).read (by rw [List.length_map]; omega)
    obtain ⟨ao, c1, rfl⟩ := O1.out.form
    obtain ⟨bo, c2, rfl⟩ := O2.out.form
    clear p1 p2 p3 p4 f1 f2 f3 hs R1 R2 HR HD FA
    generalize (L.map txt).length = nn at *
    generalize (s.size : Int) - (a : Int) = tn at *
    go_wp2_with (first | (go_at_call 7; refine (HA.out _ B2.out).mono ?_; rintro e w3 ⟨rfl, b3⟩; have B3 := hide b3; clear b3) | (go_at_call 13; refine (HM.out _ B3.out).mono ?_; rintro e w4 ⟨rfl, nq, rfl⟩))
    go_ret
    exact ⟨rfl, below_drewN (below_next B2.out B3.out) _⟩
end
end Go.Proofs.YtgncphoaknffnaaDoor
