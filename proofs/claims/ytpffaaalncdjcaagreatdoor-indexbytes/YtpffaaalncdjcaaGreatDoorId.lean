/- The document's four and Bytes: their contracts. -/
import Derived.Test.YtpffaaalncdjcaaGreatDoorN01
import Derived.Test.YtpffaaalncdjcaaGreatDoorN02
import Derived.Test.YtpffaaalncdjcaaGreatDoorN03
import Derived.Test.YtpffaaalncdjcaaGreatDoorN04
import Derived.Test.YtpffaaalncdjcaaGreatDoorN05
import Derived.Test.YtpffaaalncdjcaaGreatDoorN06
import Derived.Test.YtpffaaalncdjcaaGreatDoorN07
import Derived.Test.YtpffaaalncdjcaaGreatDoorN08
import Derived.Test.YtpffaaalncdjcaaGreatDoorN09
import Derived.Test.YtpffaaalncdjcaaGreatDoorN10
import Derived.Test.YtpffaaalncdjcaaGreatDoorN11
import Derived.Test.YtpffaaalncdjcaaGreatDoorN12
import Derived.Test.YtpffaaalncdjcaaGreatDoorN13
import Derived.Test.YtpffaaalncdjcaaGreatDoorN14
import Derived.Test.YtpffaaalncdjcaaGreatDoorN15
import Derived.Test.YtpffaaalncdjcaaGreatDoorN16
import Derived.Test.YtpffaaalncdjcaaGreatDoorN17
import Derived.Test.YtpffaaalncdjcaaGreatDoorN18
import Derived.Test.YtpffaaalncdjcaaGreatDoorN19
import Derived.Test.YtpffaaalncdjcaaGreatDoorN20
import Derived.Test.YtpffaaalncdjcaaGreatDoorN21
import Derived.Test.YtpffaaalncdjcaaGreatDoorN22
import Derived.Test.YtpffaaalncdjcaaGreatDoorN23
import Derived.Test.YtpffaaalncdjcaaGreatDoorN24
import Derived.Test.YtpffaaalncdjcaaGreatDoorN25
import Derived.Test.YtpffaaalncdjcaaGreatDoorN26
import Derived.Test.YtpffaaalncdjcaaGreatDoorN27
import Derived.Test.YtpffaaalncdjcaaGreatDoorN28
import Derived.Test.YtpffaaalncdjcaaGreatDoorN29
import Derived.Test.YtpffaaalncdjcaaGreatDoorN30
import Derived.Test.YtpffaaalncdjcaaGreatDoorN31
import Derived.Test.YtpffaaalncdjcaaGreatDoorN32
import Derived.Test.YtpffaaalncdjcaaGreatDoorN33
import Derived.Test.YtpffaaalncdjcaaGreatDoorN34
import Derived.Test.YtpffaaalncdjcaaGreatDoorN35
import Derived.Test.YtpffaaalncdjcaaGreatDoorN36
import Derived.Test.YtpffaaalncdjcaaGreatDoorN37
import Derived.Test.YtpffaaalncdjcaaGreatDoorN38
import Derived.Test.YtpffaaalncdjcaaGreatDoorN39
import Derived.Test.YtpffaaalncdjcaaGreatDoorN40
namespace Go.Proofs.YtpffaaalncdjcaaGreatDoor
open Go.RowKit
open Go.Deep
set_option linter.unusedVariables false
theorem ldHr {W : World} {g : Nat} (h : Hd) (r : W.rangeAt g 0 h.cells) : (Instr.loadAt 35 (.pointer (some ⟨g, 0, none⟩))).run Tryz.prog W = .ok (.agg h.cells.toArray) W :=
  run_loadAt_mid W g 0 35 _ _ r Tryz.underlying35 rfl (by rw [h.len]; kernel_rfl)
section
set_option maxRecDepth 10000
set_option maxHeartbeats 4000000
theorem rfour_any (n : Int) (h0 : 0 ≤ n) (h1 : n ≤ 2147483647) (w : World) : Calls Tryz.prog 43 #[.int .i64 n] w fun e w' => e = .returned (.string (txt (lowL n.toNat 4))) ∧ Below w.heap.size w w' := by
  have HL : Hid (∀ W, Calls Tryz.prog 44 #[.int .u64 n, .int .i64 4] W fun e w' => e = .returned (.string (txt (lowL n.toNat 4))) ∧ Below W.heap.size W w') := fun W => by
    have := low_any n.toNat 4 4 rfl (by unfold U64; omega) W (by omega)
    rw [Int.toNat_of_nonneg h0] at this
    exact this
  have e1 : IntKind.u64.wrap n = n := wrapu _ (by omega) (by omega)
  clear h0 h1
  go_enter Tryz.func43, Tryz.ntmps43
  go_wp2_with (go_at_call 44; refine (HL.out _).mono ?_; rintro r W1 ⟨rfl, be⟩; have B1 := hide be; clear be)
  go_ret
  exact ⟨rfl, B1.out⟩
theorem rbytesI_any (x : En) (hm : x.may = true) (w : World) : Calls Tryz.prog 13 #[.agg x.cells.toArray] w fun e w' => e = .returned (.string (txt x.bytes)) ∧ Below w.heap.size w w' := by
  have R1 := hide (heap_alloc_last w (.cells x.cells.toArray 37))
  have B1 := hide ((Below.refl w.heap.size w).alloc (Nat.le_refl _) (.cells x.cells.toArray 37))
  have CC : Hid (∀ W : World, W.heap[w.heap.size]? = some (.cells x.cells.toArray 37 (0, 0)) → (Instr.loadAt 35 (.pointer (some ⟨w.heap.size, 0, none⟩))).run Tryz.prog W = .ok (.agg x.h.cells.toArray) W ∧ W.cell? ⟨w.heap.size, 68, none⟩ = some (.int .i64 x.ht) ∧ W.cell? ⟨w.heap.size, 69, none⟩ = some (.int .i64 x.st) ∧ W.cell? ⟨w.heap.size, 70, none⟩ = some (.int .i64 x.fl) ∧ W.cell? ⟨w.heap.size, 71, none⟩ = some (.int .i64 x.pl) ∧ W.cell? ⟨w.heap.size, 72, none⟩ = some (.int .i64 x.lg)) := fun W e => by
    obtain ⟨a, b⟩ := x.row e
    exact ⟨ldHr x.h a, b⟩
  obtain ⟨⟨a0, a1⟩, ⟨d0, d1⟩, ⟨f0, f1⟩, ⟨p0, p1⟩, l0, l1⟩ := (x.may_iff).1 hm
  have HH := hide (fun W => rhead_any x.h W)
  have H1 := hide (fun W => rfour_any x.ht a0 (by omega) W)
  have H2 : Hid (∀ W, Calls Tryz.prog 44 #[.int .u64 x.st, .int .i64 1] W fun e w' => e = .returned (.string (txt [UInt8.ofNat x.st.toNat])) ∧ Below W.heap.size W w') := fun W => by
    have := low_any x.st.toNat 1 1 rfl (by unfold U64; omega) W (by omega)
    rw [Int.toNat_of_nonneg d0] at this
    rw [show lowL x.st.toNat 1 = [UInt8.ofNat x.st.toNat] by simp only [lowL]; rw [Nat.mod_eq_of_lt (by omega)]] at this
    exact this
  have H3 := hide (fun W => rfour_any x.fl f0 f1 W)
  have H4 := hide (fun W => rfour_any x.pl p0 p1 W)
  have H5 := hide (fun W => rfour_any x.lg l0 l1 W)
  have FIN : Hid (txt x.h.bytes ++ txt (lowL x.ht.toNat 4) ++ txt [UInt8.ofNat x.st.toNat] ++ txt (lowL x.fl.toNat 4) ++ txt (lowL x.pl.toNat 4) ++ txt (lowL x.lg.toNat 4) = txt x.bytes) := by
    show _ = _
    rw [txt_app, txt_app, txt_app, txt_app, txt_app]
    rfl
  have z0 : (txt x.h.bytes).size = 80 := by rw [txt_sz, x.h.bytes_len]
  have z1 : (txt (lowL x.ht.toNat 4)).size = 4 := by rw [txt_sz, lowL_len]
  have z2 : (txt [UInt8.ofNat x.st.toNat]).size = 1 := by rw [txt_sz]; rfl
  have z3 : (txt (lowL x.fl.toNat 4)).size = 4 := by rw [txt_sz, lowL_len]
  have z4 : (txt (lowL x.pl.toNat 4)).size = 4 := by rw [txt_sz, lowL_len]
  have z5 : (txt (lowL x.lg.toNat 4)).size = 4 := by rw [txt_sz, lowL_len]
  have w2 : IntKind.u64.wrap x.st = x.st := wrapu _ (by omega) (by omega)
  clear hm a0 a1 d0 d1 f0 f1 p0 p1 l0 l1
  generalize x.cells.toArray = C at *
  generalize x.h.cells.toArray = CH at *
  generalize txt x.h.bytes = t0 at *
  generalize txt (lowL x.ht.toNat 4) = t1 at *
  generalize txt [UInt8.ofNat x.st.toNat] = t2 at *
  generalize txt (lowL x.fl.toNat 4) = t3 at *
  generalize txt (lowL x.pl.toNat 4) = t4 at *
  generalize txt (lowL x.lg.toNat 4) = t5 at *
  generalize x.ht = v1 at *
  generalize x.st = v2 at *
  generalize x.fl = v3 at *
  generalize x.pl = v4 at *
  generalize x.lg = v5 at *
  go_enter Tryz.func13, Tryz.ntmps13
  go_upto_region 1 with ((with_reducible refine at_list ?_); refine wpList_boxA rfl _ rfl C rfl ?_)
  generalize w.alloc (.cells C 37) = W0 at *
  have RT : Hid (∀ W, Below W0.heap.size W0 W → W.heap[w.heap.size]? = some (.cells C 37 (0, 0))) := fun W b => (b.block _ (lt_heap R1.out)).trans R1.out
  have DV1 := hide ((Below.refl W0.heap.size W0).drew)
  refine wp_region_held_drew (S := fun W => Below W0.heap.size W0 W) (by kernel_rfl) DV1.out (fun hH => ?_)
  generalize hWd : W0.drew = V1 at *
  clear hWd
  refine wpAnyH_take (i := 0) (v := (.pointer (some ⟨w.heap.size, 0, none⟩))) rfl (by kernel_rfl) (by kernel_rfl) (by kernel_rfl) (fun _ _ _ h => h) (.inl ⟨by rfl, fun W _ => by go_simp⟩) hH ?_
  change wpAnyH _ _ _ _ _ _ _ (Act.put _ (some 3) _) _
  simp only [Act.put, List.setIfInBounds_toArray, List.set_cons_zero, List.set_cons_succ]
  refine wpAnyH_take (i := 1) (v := (.agg CH)) rfl (by kernel_rfl) (by kernel_rfl) (by kernel_rfl) (fun _ _ _ h => h) (yl_load (by rfl) _ (by rfl) _ CH (by rfl) (fun W hS => (CC.out W (RT.out W hS)).1)) hH ?_
  change wpAnyH _ _ _ _ _ _ _ (Act.put _ (some 4) _) _
  simp only [Act.put, List.setIfInBounds_toArray, List.set_cons_zero, List.set_cons_succ]
  refine wpAnyH_take (i := 3) (v := (.pointer (some ⟨w.heap.size, 68, none⟩))) rfl (by kernel_rfl) (by kernel_rfl) (by kernel_rfl) (fun _ _ _ h => h) (.inl ⟨by rfl, fun W _ => by go_simp⟩) hH ?_
  change wpAnyH _ _ _ _ _ _ _ (Act.put _ (some 6) _) _
  simp only [Act.put, List.setIfInBounds_toArray, List.set_cons_zero, List.set_cons_succ]
  refine wpAnyH_take (i := 4) (v := (.int .i64 v1)) rfl (by kernel_rfl) (by kernel_rfl) (by kernel_rfl) (fun _ _ _ h => h) (.inl ⟨by rfl, fun W hS => by have c4 := (CC.out W (RT.out W hS)).2.1; go_simp⟩) hH ?_
  change wpAnyH _ _ _ _ _ _ _ (Act.put _ (some 7) _) _
  simp only [Act.put, List.setIfInBounds_toArray, List.set_cons_zero, List.set_cons_succ]
  refine wpAnyH_take (i := 7) (v := (.pointer (some ⟨w.heap.size, 69, none⟩))) rfl (by kernel_rfl) (by kernel_rfl) (by kernel_rfl) (fun _ _ _ h => h) (.inl ⟨by rfl, fun W _ => by go_simp⟩) hH ?_
  change wpAnyH _ _ _ _ _ _ _ (Act.put _ (some 10) _) _
  simp only [Act.put, List.setIfInBounds_toArray, List.set_cons_zero, List.set_cons_succ]
  refine wpAnyH_take (i := 8) (v := (.int .i64 v2)) rfl (by kernel_rfl) (by kernel_rfl) (by kernel_rfl) (fun _ _ _ h => h) (.inl ⟨by rfl, fun W hS => by have c4 := (CC.out W (RT.out W hS)).2.2.1; go_simp⟩) hH ?_
  change wpAnyH _ _ _ _ _ _ _ (Act.put _ (some 11) _) _
  simp only [Act.put, List.setIfInBounds_toArray, List.set_cons_zero, List.set_cons_succ]
  refine wpAnyH_take (i := 9) (v := (.int .u64 v2)) rfl (by kernel_rfl) (by kernel_rfl) (by kernel_rfl) (fun _ _ _ h => h) (.inl ⟨by rfl, fun W _ => by go_simp⟩) hH ?_
  change wpAnyH _ _ _ _ _ _ _ (Act.put _ (some 12) _) _
  simp only [Act.put, List.setIfInBounds_toArray, List.set_cons_zero, List.set_cons_succ]
  refine wpAnyH_take (i := 12) (v := (.pointer (some ⟨w.heap.size, 70, none⟩))) rfl (by kernel_rfl) (by kernel_rfl) (by kernel_rfl) (fun _ _ _ h => h) (.inl ⟨by rfl, fun W _ => by go_simp⟩) hH ?_
  change wpAnyH _ _ _ _ _ _ _ (Act.put _ (some 15) _) _
  simp only [Act.put, List.setIfInBounds_toArray, List.set_cons_zero, List.set_cons_succ]
  refine wpAnyH_take (i := 13) (v := (.int .i64 v3)) rfl (by kernel_rfl) (by kernel_rfl) (by kernel_rfl) (fun _ _ _ h => h) (.inl ⟨by rfl, fun W hS => by have c4 := (CC.out W (RT.out W hS)).2.2.2.1; go_simp⟩) hH ?_
  change wpAnyH _ _ _ _ _ _ _ (Act.put _ (some 16) _) _
  simp only [Act.put, List.setIfInBounds_toArray, List.set_cons_zero, List.set_cons_succ]
  refine wpAnyH_take (i := 16) (v := (.pointer (some ⟨w.heap.size, 71, none⟩))) rfl (by kernel_rfl) (by kernel_rfl) (by kernel_rfl) (fun _ _ _ h => h) (.inl ⟨by rfl, fun W _ => by go_simp⟩) hH ?_
  change wpAnyH _ _ _ _ _ _ _ (Act.put _ (some 19) _) _
  simp only [Act.put, List.setIfInBounds_toArray, List.set_cons_zero, List.set_cons_succ]
  refine wpAnyH_take (i := 17) (v := (.int .i64 v4)) rfl (by kernel_rfl) (by kernel_rfl) (by kernel_rfl) (fun _ _ _ h => h) (.inl ⟨by rfl, fun W hS => by have c4 := (CC.out W (RT.out W hS)).2.2.2.2.1; go_simp⟩) hH ?_
  change wpAnyH _ _ _ _ _ _ _ (Act.put _ (some 20) _) _
  simp only [Act.put, List.setIfInBounds_toArray, List.set_cons_zero, List.set_cons_succ]
  refine wpAnyH_take (i := 20) (v := (.pointer (some ⟨w.heap.size, 72, none⟩))) rfl (by kernel_rfl) (by kernel_rfl) (by kernel_rfl) (fun _ _ _ h => h) (.inl ⟨by rfl, fun W _ => by go_simp⟩) hH ?_
  change wpAnyH _ _ _ _ _ _ _ (Act.put _ (some 23) _) _
  simp only [Act.put, List.setIfInBounds_toArray, List.set_cons_zero, List.set_cons_succ]
  refine wpAnyH_take (i := 21) (v := (.int .i64 v5)) rfl (by kernel_rfl) (by kernel_rfl) (by kernel_rfl) (fun _ _ _ h => h) (.inl ⟨by rfl, fun W hS => by have c4 := (CC.out W (RT.out W hS)).2.2.2.2.2; go_simp⟩) hH ?_
  change wpAnyH _ _ _ _ _ _ _ (Act.put _ (some 24) _) _
  simp only [Act.put, List.setIfInBounds_toArray, List.set_cons_zero, List.set_cons_succ]
  refine wpAnyH_ready (rs := [2]) (by kernel_rfl) (by simp) (AllReadyH.cons rfl (fun K1 hK1 => ?_) AllReadyH.nil)
  go_simp
  refine (HH.out V1).mono ?_
  rintro r V2 ⟨rfl, be⟩
  have DV2 := hide (below_next DV1.out be)
  clear be
  refine hK1.out _ _ DV2.out (fun hH => ?_)
  clear hK1
  refine wpAnyH_ready (rs := [5]) (by kernel_rfl) (by simp) (AllReadyH.cons rfl (fun K1 hK1 => ?_) AllReadyH.nil)
  go_simp
  refine (H1.out V2).mono ?_
  rintro r V3 ⟨rfl, be⟩
  have DV3 := hide (below_next DV2.out be)
  clear be
  refine hK1.out _ _ DV3.out (fun hH => ?_)
  clear hK1
  refine wpAnyH_take (i := 6) (v := (.string (t0 ++ t1))) rfl (by kernel_rfl) (by kernel_rfl) (by kernel_rfl) (fun _ _ _ h => h) (.inl ⟨by rfl, fun W _ => by go_simp⟩) hH ?_
  change wpAnyH _ _ _ _ _ _ _ (Act.put _ (some 9) _) _
  simp only [Act.put, List.setIfInBounds_toArray, List.set_cons_zero, List.set_cons_succ]
  refine wpAnyH_ready (rs := [10]) (by kernel_rfl) (by simp) (AllReadyH.cons rfl (fun K1 hK1 => ?_) AllReadyH.nil)
  go_simp
  refine (H2.out V3).mono ?_
  rintro r V4 ⟨rfl, be⟩
  have DV4 := hide (below_next DV3.out be)
  clear be
  refine hK1.out _ _ DV4.out (fun hH => ?_)
  clear hK1
  refine wpAnyH_take (i := 11) (v := (.string (t0 ++ t1 ++ t2))) rfl (by kernel_rfl) (by kernel_rfl) (by kernel_rfl) (fun _ _ _ h => h) (.inl ⟨by rfl, fun W _ => by go_simp⟩) hH ?_
  change wpAnyH _ _ _ _ _ _ _ (Act.put _ (some 14) _) _
  simp only [Act.put, List.setIfInBounds_toArray, List.set_cons_zero, List.set_cons_succ]
  refine wpAnyH_ready (rs := [14]) (by kernel_rfl) (by simp) (AllReadyH.cons rfl (fun K1 hK1 => ?_) AllReadyH.nil)
  go_simp
  refine (H3.out V4).mono ?_
  rintro r V5 ⟨rfl, be⟩
  have DV5 := hide (below_next DV4.out be)
  clear be
  refine hK1.out _ _ DV5.out (fun hH => ?_)
  clear hK1
  refine wpAnyH_take (i := 15) (v := (.string (t0 ++ t1 ++ t2 ++ t3))) rfl (by kernel_rfl) (by kernel_rfl) (by kernel_rfl) (fun _ _ _ h => h) (.inl ⟨by rfl, fun W _ => by go_simp⟩) hH ?_
  change wpAnyH _ _ _ _ _ _ _ (Act.put _ (some 18) _) _
  simp only [Act.put, List.setIfInBounds_toArray, List.set_cons_zero, List.set_cons_succ]
  refine wpAnyH_ready (rs := [18]) (by kernel_rfl) (by simp) (AllReadyH.cons rfl (fun K1 hK1 => ?_) AllReadyH.nil)
  go_simp
  refine (H4.out V5).mono ?_
  rintro r V6 ⟨rfl, be⟩
  have DV6 := hide (below_next DV5.out be)
  clear be
  refine hK1.out _ _ DV6.out (fun hH => ?_)
  clear hK1
  refine wpAnyH_take (i := 19) (v := (.string (t0 ++ t1 ++ t2 ++ t3 ++ t4))) rfl (by kernel_rfl) (by kernel_rfl) (by kernel_rfl) (fun _ _ _ h => h) (.inl ⟨by rfl, fun W _ => by go_simp⟩) hH ?_
  change wpAnyH _ _ _ _ _ _ _ (Act.put _ (some 22) _) _
  simp only [Act.put, List.setIfInBounds_toArray, List.set_cons_zero, List.set_cons_succ]
  refine wpAnyH_ready (rs := [22]) (by kernel_rfl) (by simp) (AllReadyH.cons rfl (fun K1 hK1 => ?_) AllReadyH.nil)
  go_simp
  refine (H5.out V6).mono ?_
  rintro r V7 ⟨rfl, be⟩
  have DV7 := hide (below_next DV6.out be)
  clear be
  refine hK1.out _ _ DV7.out (fun hH => ?_)
  clear hK1
  refine wpAnyH_take (i := 23) (v := (.string (t0 ++ t1 ++ t2 ++ t3 ++ t4 ++ t5))) rfl (by kernel_rfl) (by kernel_rfl) (by kernel_rfl) (fun _ _ _ h => h) (.inl ⟨by rfl, fun W _ => by go_simp⟩) hH ?_
  change wpAnyH _ _ _ _ _ _ _ (Act.put _ (some 26) _) _
  simp only [Act.put, List.setIfInBounds_toArray, List.set_cons_zero, List.set_cons_succ]
  refine wpAnyH_take (i := 24) (v := (.string (t0 ++ t1 ++ t2 ++ t3 ++ t4 ++ t5))) rfl (by kernel_rfl) (by kernel_rfl) (by kernel_rfl) (fun _ _ _ h => h) (.inl ⟨by rfl, fun W _ => by go_simp⟩) hH ?_
  change wpAnyH _ _ _ _ _ _ _ (Act.put _ (some 2) _) _
  simp only [Act.put, List.setIfInBounds_toArray, List.set_cons_zero, List.set_cons_succ]
  refine wpAnyH_done (by kernel_rfl) ?_ _
  clear hH
  rw [FIN.out]
  go_wp2
  go_ret
  exact ⟨rfl, below_next B1.out DV7.out⟩
end
end Go.Proofs.YtpffaaalncdjcaaGreatDoor
