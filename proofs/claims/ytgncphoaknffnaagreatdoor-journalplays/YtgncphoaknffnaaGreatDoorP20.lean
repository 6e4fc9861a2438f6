/- Journals: the law's stands. Journals: what the law does, kind by kind. -/
import Derived.Test.YtgncphoaknffnaaGreatDoorP19
namespace Go.Proofs.YtgncphoaknffnaaGreatDoor
open Go.RowKit
open Go.Deep
open Go.Lib
set_option linter.unusedVariables false
section
set_option maxRecDepth 10000
set_option maxHeartbeats 2000000
variable {K : Nat → Prop} {B w : World} {gj gd : Nat} {x : StD} {T : Nat → Prop} {v : Value}
theorem stands_any {ep torn c : Nat} {L : List ByteArray} {u : Value} (h : JB K B w gj gd ⟨logN, ep, L, torn, false⟩ x T v) (hu : MU w T gj v u L) (hd : Ds x ep L c) (hc : c ≤ 60) : Calls Tryz.prog 9 #[.pointer (some ⟨gj, 0, none⟩), .pointer (some ⟨gd, 0, none⟩), .agg #[u, .int .u64 (ep : Int)]] w fun e w' => e = .returned (.bool true) ∧ Below w.heap.size w w' := by
  obtain ⟨ao, cu, rfl⟩ := hu.lx.form
  obtain ⟨ft, hft⟩ : ∃ ft, ft = txt (fileL ep (dl L)) := ⟨_, rfl⟩
  have hz : ft.size = flen (dl L) := by rw [hft, txtJ_size, fileL_len]
  have fl := hd.fl
  have hm := hd.many
  have hep := hd.epo
  have b0 : Below w.heap.size w (w.alloc (.cells #[.slice ao L.length cu, .int .u64 (ep : Int)] 33)) := (Below.refl _ _).alloc (Nat.le_refl _) _
  have rm := heap_alloc_last w (.cells #[.slice ao L.length cu, .int .u64 (ep : Int)] 33)
  have HR : Hid (∀ W, Below w.heap.size w W → Calls Tryz.prog 23 #[.pointer (some ⟨gd, 0, none⟩), .string logN] W fun e w' => e = .returned (.tuple #[.string ft, .int .i64 0]) ∧ Below W.heap.size W w') := fun W hb => by
    have := read_any gd x T logN W (h.dk.below hb) (by decide)
    rw [hd.fnd, if_pos rfl, hd.at_] at this
    rw [show (⟨(fileL ep (dl L)).toArray⟩ : ByteArray) = ft from hft.symm] at this
    exact this
  have HF : Hid (∀ W, Below w.heap.size w W → Calls Tryz.prog 26 #[.int .u64 (ep : Int), .slice ao L.length cu] W fun e w' => e = .returned (.string ft) ∧ Below W.heap.size W w') := fun W hb => by
    rw [hft]
    exact rfileJ_any ep (by unfold U64; omega) L _ W (hu.lx.below hb) (by omega) hd.short
  have HZ : Hid (∀ W, Below w.heap.size w W → Calls Tryz.prog 27 #[.pointer (some ⟨gj, 0, none⟩)] W fun e w' => e = .returned (.int .i64 (ft.size : Int)) ∧ w' = W) := fun W hb => by
    have := sizeJ_any (h.next hb) (show flen (dl L) ≤ 1099511627776 by omega)
    rw [hz]
    exact this
  have HA := hide fun W (hb : Below w.heap.size w W) => allJ_any (h.next hb) (show L.length ≤ 1099511627776 by omega)
  have HS := hide fun W (hb : Below w.heap.size w W) u' (o : OX KS W u' L) => same_yes L u' (.slice ao L.length cu) W o.read (hu.lx.below hb) (by omega)
  have HL := hide fun W (hb : Below w.heap.size w W) => lenJ_any (h.next hb)
  have HE := hide fun W (hb : Below w.heap.size w W) => epochJ_any (h.next hb)
  have HD := hide fun W (hb : Below w.heap.size w W) => deadJ_any (h.next hb)
  have HG := hide fun W (hb : Below w.heap.size w W) (i : Nat) (s : ByteArray) (hi : L[i]? = some s) => getJ_any (h.next hb) i s hi
  have HG2 := hide fun W (hb : Below w.heap.size w W) (i : Int) (hi : i < 0 ∨ (L.length : Int) ≤ i) => getJ_out (h.next hb) i hi
  have HU := hide hu.lx
  have HSM := hide (show (ft.size : Int) < 9223372036854775807 by omega)
  have HLM := hide (show L.length ≤ 60 by omega)
  have hfe : (ft.toList == ft.toList) = true := by simp
  unfold logN at HR
  clear h hd hft fl hm hep hz hu
  go_enter Tryz.func9, Tryz.ntmps9
  go_upto_region 1 with fail
  generalize hW0 : w.alloc (.cells #[.slice ao L.length cu, .int .u64 (ep : Int)] 33) = W0 at *
  have B0 := hide b0
  have RM := hide rm
  clear hW0 b0 rm
  go_upto_region 2 with (go_at_call 23; refine (HR.out _ B0.out).mono ?_; rintro e w1 ⟨rfl, b1⟩; have B1 := hide b1; clear b1)
  have HC : Hid (∀ W, Below W0.heap.size W0 W → W.cell? ⟨w.heap.size, 0, none⟩ = some (.slice ao L.length cu) ∧ W.cell? ⟨w.heap.size, 1, none⟩ = some (.int .u64 (ep : Int))) := fun W hb => by
    have hr := (hb.block _ (lt_heap RM.out)).trans RM.out
    exact ⟨by rw [cell_of_row _ _ 0 _ _ _ hr]; rfl, by rw [cell_of_row _ _ 1 _ _ _ hr]; rfl⟩
  have BX : Hid (∀ W, Below W0.heap.size W0 W → Below w.heap.size w W) := fun W hb => below_next B0.out hb
  clear HR
  refine wp_region_held_drew (S := fun W => W.cell? ⟨w.heap.size, 0, none⟩ = some (.slice ao L.length cu) ∧ W.cell? ⟨w.heap.size, 1, none⟩ = some (.int .u64 (ep : Int))) (by kernel_rfl) (HC.out w1 B1.out) (fun hH => ?_)
  refine wpAnyH_take (i := 0) (v := .int .i64 0) rfl (by kernel_rfl) (by kernel_rfl) (by kernel_rfl) (fun _ _ _ h => h) (yl_move (by rfl) _ (by rfl) _ (by rfl)) hH ?_
  change wpAnyH _ _ _ _ _ _ _ (Act.put _ (some 22) _) _
  simp only [Act.put, List.setIfInBounds_toArray, List.set_cons_zero, List.set_cons_succ]
  refine wpAnyH_take (i := 1) (v := .bool false) rfl (by kernel_rfl) (by kernel_rfl) (by kernel_rfl) (fun _ _ _ h => h) (.inl ⟨by rfl, fun W _ => by go_simp⟩) hH ?_
  change wpAnyH _ _ _ _ _ _ _ (Act.put _ (some 23) _) _
  simp only [Act.put, List.setIfInBounds_toArray, List.set_cons_zero, List.set_cons_succ]
  refine wpAnyH_take (i := 2) (v := .bool false) rfl (by kernel_rfl) (by kernel_rfl) (by kernel_rfl) (fun _ _ _ h => h) (yl_move (by rfl) _ (by rfl) _ (by rfl)) hH ?_
  change wpAnyH _ _ _ _ _ _ _ (Act.put _ (some 24) _) _
  simp only [Act.put, List.setIfInBounds_toArray, List.set_cons_zero, List.set_cons_succ]
  refine wpAnyH_take (i := 3) (v := .string ft) rfl (by kernel_rfl) (by kernel_rfl) (by kernel_rfl) (fun _ _ _ h => h) (yl_move (by rfl) _ (by rfl) _ (by rfl)) hH ?_
  change wpAnyH _ _ _ _ _ _ _ (Act.put _ (some 25) _) _
  simp only [Act.put, List.setIfInBounds_toArray, List.set_cons_zero, List.set_cons_succ]
  refine wpAnyH_take (i := 4) (v := .pointer (some ⟨w.heap.size, 1, none⟩)) rfl (by kernel_rfl) (by kernel_rfl) (by kernel_rfl) (fun _ _ _ h => h) (.inl ⟨by rfl, fun W _ => by go_simp⟩) hH ?_
  change wpAnyH _ _ _ _ _ _ _ (Act.put _ (some 26) _) _
  simp only [Act.put, List.setIfInBounds_toArray, List.set_cons_zero, List.set_cons_succ]
  refine wpAnyH_take (i := 5) (v := .int .u64 (ep : Int)) rfl (by kernel_rfl) (by kernel_rfl) (by kernel_rfl) (fun _ _ _ h => h) (.inl ⟨by rfl, fun W hS => by have c4 := hS.2; go_simp⟩) hH ?_
  change wpAnyH _ _ _ _ _ _ _ (Act.put _ (some 27) _) _
  simp only [Act.put, List.setIfInBounds_toArray, List.set_cons_zero, List.set_cons_succ]
  refine wpAnyH_take (i := 6) (v := .pointer (some ⟨w.heap.size, 0, none⟩)) rfl (by kernel_rfl) (by kernel_rfl) (by kernel_rfl) (fun _ _ _ h => h) (.inl ⟨by rfl, fun W _ => by go_simp⟩) hH ?_
  change wpAnyH _ _ _ _ _ _ _ (Act.put _ (some 28) _) _
  simp only [Act.put, List.setIfInBounds_toArray, List.set_cons_zero, List.set_cons_succ]
  refine wpAnyH_take (i := 7) (v := .slice ao L.length cu) rfl (by kernel_rfl) (by kernel_rfl) (by kernel_rfl) (fun _ _ _ h => h) (.inl ⟨by rfl, fun W hS => by have c4 := hS.1; go_simp⟩) hH ?_
  change wpAnyH _ _ _ _ _ _ _ (Act.put _ (some 29) _) _
  simp only [Act.put, List.setIfInBounds_toArray, List.set_cons_zero, List.set_cons_succ]
  refine wpAnyH_ready (rs := [8]) (by kernel_rfl) (by simp) (AllReadyH.cons rfl (fun K1 hK1 => ?_) AllReadyH.nil)
  go_simp
  refine (HF.out _ (BX.out _ B1.out.drew)).mono ?_
  rintro e w2 ⟨rfl, b2⟩
  have B2 := hide (below_next B1.out.drew b2)
  refine hK1.out _ _ (HC.out _ B2.out) (fun hH => ?_)
  clear hK1
  refine wpAnyH_take (i := 9) (v := .bool false) rfl (by kernel_rfl) (by kernel_rfl) (by kernel_rfl) (fun _ _ _ h => h) (.inl ⟨by rfl, fun W _ => by go_simp⟩) hH ?_
  change wpAnyH _ _ _ _ _ _ _ (Act.put _ (some 31) _) _
  simp only [Act.put, List.setIfInBounds_toArray, List.set_cons_zero, List.set_cons_succ]
  refine wpAnyH_take (i := 10) (v := .bool false) rfl (by kernel_rfl) (by kernel_rfl) (by kernel_rfl) (fun _ _ _ h => h) (.inl ⟨by rfl, fun W _ => by go_simp⟩) hH ?_
  change wpAnyH _ _ _ _ _ _ _ (Act.put _ (some 32) _) _
  simp only [Act.put, List.setIfInBounds_toArray, List.set_cons_zero, List.set_cons_succ]
  refine wpAnyH_take (i := 11) (v := .bool false) rfl (by kernel_rfl) (by kernel_rfl) (by kernel_rfl) (fun _ _ _ h => h) (yl_move (by rfl) _ (by rfl) _ (by rfl)) hH ?_
  change wpAnyH _ _ _ _ _ _ _ (Act.put _ (some 33) _) _
  simp only [Act.put, List.setIfInBounds_toArray, List.set_cons_zero, List.set_cons_succ]
  refine wpAnyH_take (i := 12) (v := .pointer (some ⟨gj, 0, none⟩)) rfl (by kernel_rfl) (by kernel_rfl) (by kernel_rfl) (fun _ _ _ h => h) (yl_move (by rfl) _ (by rfl) _ (by rfl)) hH ?_
  change wpAnyH _ _ _ _ _ _ _ (Act.put _ (some 34) _) _
  simp only [Act.put, List.setIfInBounds_toArray, List.set_cons_zero, List.set_cons_succ]
  refine wpAnyH_take (i := 14) (v := .string ft) rfl (by kernel_rfl) (by kernel_rfl) (by kernel_rfl) (fun _ _ _ h => h) (yl_move (by rfl) _ (by rfl) _ (by rfl)) hH ?_
  change wpAnyH _ _ _ _ _ _ _ (Act.put _ (some 36) _) _
  simp only [Act.put, List.setIfInBounds_toArray, List.set_cons_zero, List.set_cons_succ]
  refine wpAnyH_take (i := 15) (v := .int .i64 (ft.size : Int)) rfl (by kernel_rfl) (by kernel_rfl) (by kernel_rfl) (fun _ _ _ h => h) (.inl ⟨by rfl, fun W _ => by go_simp⟩) hH ?_
  change wpAnyH _ _ _ _ _ _ _ (Act.put _ (some 37) _) _
  simp only [Act.put, List.setIfInBounds_toArray, List.set_cons_zero, List.set_cons_succ]
  refine wpAnyH_ready (rs := [13]) (by kernel_rfl) (by simp) (AllReadyH.cons rfl (fun K1 hK1 => ?_) AllReadyH.nil)
  go_simp
  refine (HZ.out _ (BX.out _ B2.out)).mono ?_
  rintro e w3 ⟨rfl, hw⟩
  subst w3
  have B3 := hide (B2.out)
  refine hK1.out _ _ (HC.out _ B3.out) (fun hH => ?_)
  clear hK1
  refine wpAnyH_take (i := 16) (v := .bool false) rfl (by kernel_rfl) (by kernel_rfl) (by kernel_rfl) (fun _ _ _ h => h) (.inl ⟨by rfl, fun W _ => by go_simp⟩) hH ?_
  change wpAnyH _ _ _ _ _ _ _ (Act.put _ (some 38) _) _
  simp only [Act.put, List.setIfInBounds_toArray, List.set_cons_zero, List.set_cons_succ]
  refine wpAnyH_take (i := 17) (v := .bool false) rfl (by kernel_rfl) (by kernel_rfl) (by kernel_rfl) (fun _ _ _ h => h) (.inl ⟨by rfl, fun W _ => by go_simp⟩) hH ?_
  change wpAnyH _ _ _ _ _ _ _ (Act.put _ (some 39) _) _
  simp only [Act.put, List.setIfInBounds_toArray, List.set_cons_zero, List.set_cons_succ]
  refine wpAnyH_take (i := 18) (v := .bool false) rfl (by kernel_rfl) (by kernel_rfl) (by kernel_rfl) (fun _ _ _ h => h) (yl_move (by rfl) _ (by rfl) _ (by rfl)) hH ?_
  change wpAnyH _ _ _ _ _ _ _ (Act.put _ (some 40) _) _
  simp only [Act.put, List.setIfInBounds_toArray, List.set_cons_zero, List.set_cons_succ]
  refine wpAnyH_take (i := 19) (v := .pointer (some ⟨gj, 0, none⟩)) rfl (by kernel_rfl) (by kernel_rfl) (by kernel_rfl) (fun _ _ _ h => h) (yl_move (by rfl) _ (by rfl) _ (by rfl)) hH ?_
  change wpAnyH _ _ _ _ _ _ _ (Act.put _ (some 41) _) _
  simp only [Act.put, List.setIfInBounds_toArray, List.set_cons_zero, List.set_cons_succ]
  refine wpAnyH_take (i := 21) (v := .pointer (some ⟨w.heap.size, 0, none⟩)) rfl (by kernel_rfl) (by kernel_rfl) (by kernel_rfl) (fun _ _ _ h => h) (.inl ⟨by rfl, fun W _ => by go_simp⟩) hH ?_
  change wpAnyH _ _ _ _ _ _ _ (Act.put _ (some 43) _) _
  simp only [Act.put, List.setIfInBounds_toArray, List.set_cons_zero, List.set_cons_succ]
  refine wpAnyH_take (i := 22) (v := .slice ao L.length cu) rfl (by kernel_rfl) (by kernel_rfl) (by kernel_rfl) (fun _ _ _ h => h) (.inl ⟨by rfl, fun W hS => by have c4 := hS.1; go_simp⟩) hH ?_
  change wpAnyH _ _ _ _ _ _ _ (Act.put _ (some 44) _) _
  simp only [Act.put, List.setIfInBounds_toArray, List.set_cons_zero, List.set_cons_succ]
  refine wpAnyH_ready (rs := [20]) (by kernel_rfl) (by simp) (AllReadyH.cons rfl (fun K1 hK1 => ?_) AllReadyH.nil)
  go_simp
  refine (HA.out _ (BX.out _ B3.out)).mono ?_
  rintro e w4 ⟨u4, rfl, o4, b4, _⟩
  have O4 := hide o4
  have B4 := hide (below_next B3.out b4)
  refine hK1.out _ _ (HC.out _ B4.out) (fun hH => ?_)
  clear hK1
  refine wpAnyH_ready (rs := [23]) (by kernel_rfl) (by simp) (AllReadyH.cons rfl (fun K1 hK1 => ?_) AllReadyH.nil)
  go_simp
  refine (HS.out _ (BX.out _ B4.out) _ O4.out).mono ?_
  rintro e w5 ⟨rfl, nq, rfl⟩
  have B5 := hide (below_drewN B4.out nq)
  refine hK1.out _ _ (HC.out _ B5.out) (fun hH => ?_)
  clear hK1
  refine wpAnyH_take (i := 24) (v := .bool false) rfl (by kernel_rfl) (by kernel_rfl) (by kernel_rfl) (fun _ _ _ h => h) (.inl ⟨by rfl, fun W _ => by go_simp⟩) hH ?_
  change wpAnyH _ _ _ _ _ _ _ (Act.put _ (some 46) _) _
  simp only [Act.put, List.setIfInBounds_toArray, List.set_cons_zero, List.set_cons_succ]
  refine wpAnyH_take (i := 25) (v := .bool false) rfl (by kernel_rfl) (by kernel_rfl) (by kernel_rfl) (fun _ _ _ h => h) (.inl ⟨by rfl, fun W _ => by go_simp⟩) hH ?_
  change wpAnyH _ _ _ _ _ _ _ (Act.put _ (some 47) _) _
  simp only [Act.put, List.setIfInBounds_toArray, List.set_cons_zero, List.set_cons_succ]
  refine wpAnyH_take (i := 26) (v := .bool false) rfl (by kernel_rfl) (by kernel_rfl) (by kernel_rfl) (fun _ _ _ h => h) (yl_move (by rfl) _ (by rfl) _ (by rfl)) hH ?_
  change wpAnyH _ _ _ _ _ _ _ (Act.put _ (some 48) _) _
  simp only [Act.put, List.setIfInBounds_toArray, List.set_cons_zero, List.set_cons_succ]
  refine wpAnyH_take (i := 27) (v := .pointer (some ⟨gj, 0, none⟩)) rfl (by kernel_rfl) (by kernel_rfl) (by kernel_rfl) (fun _ _ _ h => h) (yl_move (by rfl) _ (by rfl) _ (by rfl)) hH ?_
  change wpAnyH _ _ _ _ _ _ _ (Act.put _ (some 49) _) _
  simp only [Act.put, List.setIfInBounds_toArray, List.set_cons_zero, List.set_cons_succ]
  refine wpAnyH_take (i := 29) (v := .pointer (some ⟨w.heap.size, 0, none⟩)) rfl (by kernel_rfl) (by kernel_rfl) (by kernel_rfl) (fun _ _ _ h => h) (.inl ⟨by rfl, fun W _ => by go_simp⟩) hH ?_
  change wpAnyH _ _ _ _ _ _ _ (Act.put _ (some 51) _) _
  simp only [Act.put, List.setIfInBounds_toArray, List.set_cons_zero, List.set_cons_succ]
  refine wpAnyH_take (i := 30) (v := .slice ao L.length cu) rfl (by kernel_rfl) (by kernel_rfl) (by kernel_rfl) (fun _ _ _ h => h) (.inl ⟨by rfl, fun W hS => by have c4 := hS.1; go_simp⟩) hH ?_
  change wpAnyH _ _ _ _ _ _ _ (Act.put _ (some 52) _) _
  simp only [Act.put, List.setIfInBounds_toArray, List.set_cons_zero, List.set_cons_succ]
  refine wpAnyH_take (i := 31) (v := .int .i64 (L.length : Int)) rfl (by kernel_rfl) (by kernel_rfl) (by kernel_rfl) (fun _ _ _ h => h) (.inl ⟨by rfl, fun W _ => by go_simp⟩) hH ?_
  change wpAnyH _ _ _ _ _ _ _ (Act.put _ (some 53) _) _
  simp only [Act.put, List.setIfInBounds_toArray, List.set_cons_zero, List.set_cons_succ]
  refine wpAnyH_ready (rs := [28]) (by kernel_rfl) (by simp) (AllReadyH.cons rfl (fun K1 hK1 => ?_) AllReadyH.nil)
  go_simp
  refine (HL.out _ (BX.out _ B5.out)).mono ?_
  rintro e w6 ⟨rfl, hw⟩
  subst w6
  have B6 := hide (B5.out)
  refine hK1.out _ _ (HC.out _ B6.out) (fun hH => ?_)
  clear hK1
  refine wpAnyH_take (i := 32) (v := .bool false) rfl (by kernel_rfl) (by kernel_rfl) (by kernel_rfl) (fun _ _ _ h => h) (.inl ⟨by rfl, fun W _ => by go_simp⟩) hH ?_
  change wpAnyH _ _ _ _ _ _ _ (Act.put _ (some 54) _) _
  simp only [Act.put, List.setIfInBounds_toArray, List.set_cons_zero, List.set_cons_succ]
  refine wpAnyH_take (i := 33) (v := .bool false) rfl (by kernel_rfl) (by kernel_rfl) (by kernel_rfl) (fun _ _ _ h => h) (.inl ⟨by rfl, fun W _ => by go_simp⟩) hH ?_
  change wpAnyH _ _ _ _ _ _ _ (Act.put _ (some 55) _) _
  simp only [Act.put, List.setIfInBounds_toArray, List.set_cons_zero, List.set_cons_succ]
  refine wpAnyH_take (i := 34) (v := .bool false) rfl (by kernel_rfl) (by kernel_rfl) (by kernel_rfl) (fun _ _ _ h => h) (yl_move (by rfl) _ (by rfl) _ (by rfl)) hH ?_
  change wpAnyH _ _ _ _ _ _ _ (Act.put _ (some 56) _) _
  simp only [Act.put, List.setIfInBounds_toArray, List.set_cons_zero, List.set_cons_succ]
  refine wpAnyH_take (i := 35) (v := .pointer (some ⟨gj, 0, none⟩)) rfl (by kernel_rfl) (by kernel_rfl) (by kernel_rfl) (fun _ _ _ h => h) (yl_move (by rfl) _ (by rfl) _ (by rfl)) hH ?_
  change wpAnyH _ _ _ _ _ _ _ (Act.put _ (some 57) _) _
  simp only [Act.put, List.setIfInBounds_toArray, List.set_cons_zero, List.set_cons_succ]
  refine wpAnyH_take (i := 37) (v := .pointer (some ⟨w.heap.size, 1, none⟩)) rfl (by kernel_rfl) (by kernel_rfl) (by kernel_rfl) (fun _ _ _ h => h) (.inl ⟨by rfl, fun W _ => by go_simp⟩) hH ?_
  change wpAnyH _ _ _ _ _ _ _ (Act.put _ (some 59) _) _
  simp only [Act.put, List.setIfInBounds_toArray, List.set_cons_zero, List.set_cons_succ]
  refine wpAnyH_take (i := 38) (v := .int .u64 (ep : Int)) rfl (by kernel_rfl) (by kernel_rfl) (by kernel_rfl) (fun _ _ _ h => h) (.inl ⟨by rfl, fun W hS => by have c4 := hS.2; go_simp⟩) hH ?_
  change wpAnyH _ _ _ _ _ _ _ (Act.put _ (some 60) _) _
  simp only [Act.put, List.setIfInBounds_toArray, List.set_cons_zero, List.set_cons_succ]
  refine wpAnyH_ready (rs := [36]) (by kernel_rfl) (by simp) (AllReadyH.cons rfl (fun K1 hK1 => ?_) AllReadyH.nil)
  go_simp
  refine (HE.out _ (BX.out _ B6.out)).mono ?_
  rintro e w7 ⟨rfl, hw⟩
  subst w7
  have B7 := hide (B6.out)
  refine hK1.out _ _ (HC.out _ B7.out) (fun hH => ?_)
  clear hK1
  refine wpAnyH_take (i := 39) (v := .bool false) rfl (by kernel_rfl) (by kernel_rfl) (by kernel_rfl) (fun _ _ _ h => h) (.inl ⟨by rfl, fun W _ => by go_simp⟩) hH ?_
  change wpAnyH _ _ _ _ _ _ _ (Act.put _ (some 61) _) _
  simp only [Act.put, List.setIfInBounds_toArray, List.set_cons_zero, List.set_cons_succ]
  refine wpAnyH_take (i := 40) (v := .bool false) rfl (by kernel_rfl) (by kernel_rfl) (by kernel_rfl) (fun _ _ _ h => h) (.inl ⟨by rfl, fun W _ => by go_simp⟩) hH ?_
  change wpAnyH _ _ _ _ _ _ _ (Act.put _ (some 62) _) _
  simp only [Act.put, List.setIfInBounds_toArray, List.set_cons_zero, List.set_cons_succ]
  refine wpAnyH_take (i := 41) (v := .bool false) rfl (by kernel_rfl) (by kernel_rfl) (by kernel_rfl) (fun _ _ _ h => h) (yl_move (by rfl) _ (by rfl) _ (by rfl)) hH ?_
  change wpAnyH _ _ _ _ _ _ _ (Act.put _ (some 63) _) _
  simp only [Act.put, List.setIfInBounds_toArray, List.set_cons_zero, List.set_cons_succ]
  refine wpAnyH_take (i := 42) (v := .pointer (some ⟨gj, 0, none⟩)) rfl (by kernel_rfl) (by kernel_rfl) (by kernel_rfl) (fun _ _ _ h => h) (yl_move (by rfl) _ (by rfl) _ (by rfl)) hH ?_
  change wpAnyH _ _ _ _ _ _ _ (Act.put _ (some 64) _) _
  simp only [Act.put, List.setIfInBounds_toArray, List.set_cons_zero, List.set_cons_succ]
  refine wpAnyH_ready (rs := [43]) (by kernel_rfl) (by simp) (AllReadyH.cons rfl (fun K1 hK1 => ?_) AllReadyH.nil)
  go_simp
  refine (HD.out _ (BX.out _ B7.out)).mono ?_
  rintro e w8 ⟨rfl, hw⟩
  subst w8
  have B8 := hide (B7.out)
  refine hK1.out _ _ (HC.out _ B8.out) (fun hH => ?_)
  clear hK1
  refine wpAnyH_take (i := 44) (v := .bool false) rfl (by kernel_rfl) (by kernel_rfl) (by kernel_rfl) (fun _ _ _ h => h) (.inl ⟨by rfl, fun W _ => by go_simp⟩) hH ?_
  change wpAnyH _ _ _ _ _ _ _ (Act.put _ (some 66) _) _
  simp only [Act.put, List.setIfInBounds_toArray, List.set_cons_zero, List.set_cons_succ]
  refine wpAnyH_done (by kernel_rfl) ?_ _
  generalize w4.drewN nq = W5 at *
  have m0 := (HC.out W5 B8.out).1
  have BW := hide (BX.out _ B8.out)
  clear B1 B2 B3 B4 B5 B6 B7 HF HZ HA HS HL HE HD
  go_upto_region 5 with fail
  go_loop [70] (fun i => ∃ k : Nat, k ≤ L.length ∧ i = .int .i64 (k : Int)) (fun i => (L.length - intOf i).toNat)
  case atStart => exact ⟨0, Nat.zero_le _, rfl⟩
  case round =>
    obtain ⟨k, hk, rfl⟩ := hrel
    by_cases hlt : k < L.length
    · obtain ⟨s, hs⟩ : ∃ s, L[k]? = some s := ⟨_, List.getElem?_eq_getElem hlt⟩
      obtain ⟨g, off, rfl⟩ := HU.out.base (by omega)
      have hc := (HU.out.below BW.out).cellS k s hs
      have h1 : (0 : Int) ≤ (k : Int) := by omega
      have h2 : (k : Int) < L.length := by omega
      have hl := HLM.out
      have e1 : IntKind.i64.wrap ((k : Int) + 1) = k + 1 := wrapI _ (by omega) (by omega)
      have hse : (s.toList == s.toList) = true := by simp
      have HK := hide (HG.out W5 BW.out k s hs)
      clear hs
      go_wp2_with (go_at_call 19; refine HK.out.mono ?_; rintro e w9 ⟨rfl, hw⟩; subst w9)
      go_roundw
      case rel => exact ⟨k + 1, by omega, by go_num⟩
      case measure => simp [intOf]; omega
    · have h2 : ¬ (k : Int) < L.length := by omega
      have HK1 := hide (HG2.out W5 BW.out (L.length : Int) (.inr (Int.le_refl _)))
      have HK2 := hide (HG2.out W5 BW.out (-1) (.inl (by decide)))
      go_wp2_with (first | (go_at_call_of 19 (Value.int .i64 (L.length : Int)); with_reducible refine HK1.out.mono ?_; rintro e w9 ⟨rfl, hw⟩; subst w9) | (go_at_call 19; with_reducible refine HK2.out.mono ?_; rintro e w9 ⟨rfl, hw⟩; subst w9))
      go_ret
      exact ⟨rfl, BW.out⟩
end
end Go.Proofs.YtgncphoaknffnaaGreatDoor
namespace Go.Proofs.YtgncphoaknffnaaGreatDoor
open Go.RowKit
open Go.Deep
open Go.Lib
set_option linter.unusedVariables false
/-- What an act comes to. -/
def AP (K : Nat → Prop) (B : World) (gd c : Nat) (e : Ending) (w' : World) : Prop := ∃ gj' u' ep' L' torn' x' T' v', e = .returned (.tuple #[.pointer (some ⟨gj', 0, none⟩), .agg #[u', .int .u64 ((ep' : Nat) : Int)], .bool true]) ∧ JB K B w' gj' gd ⟨logN, ep', L', torn', false⟩ x' T' v' ∧ MU w' T' gj' v' u' L' ∧ Ds x' ep' L' (c + 1)
/-- The model, the act and the answer's place. -/
structure Ac (w W : World) (u : Value) (ep : Nat) (kind n : Int) (s : ByteArray) : Prop where
  m : W.heap[w.heap.size]? = some (.cells #[u, .int .u64 (ep : Int)] 33 (0, 0))
  a : W.heap[w.heap.size + 1]? = some (.cells #[.int .i64 kind, .int .i64 n, .string s] 35 (0, 0))
  r : W.heap[w.heap.size + 1 + 1]? = some (.cells #[.slice none 0 0, .int .u64 0] 33 (0, 0))
def acW (w : World) (u : Value) (ep : Nat) (kind n : Int) (s : ByteArray) : World := ((w.alloc (.cells #[u, .int .u64 (ep : Int)] 33)).alloc (.cells #[.int .i64 kind, .int .i64 n, .string s] 35)).alloc (.cells #[.slice none 0 0, .int .u64 0] 33)
theorem acW_bel (w : World) (u : Value) (ep : Nat) (kind n : Int) (s : ByteArray) : Below w.heap.size w (acW w u ep kind n s) := bel_new (bel_new ((Below.refl _ _).alloc (Nat.le_refl _) _) _) _
theorem acW_ac (w : World) (u : Value) (ep : Nat) (kind n : Int) (s : ByteArray) : Ac w (acW w u ep kind n s) u ep kind n s := by
  unfold acW
  have s1 : (w.alloc (.cells #[u, .int .u64 (ep : Int)] 33)).heap.size = w.heap.size + 1 := by simp
  have s2 : ((w.alloc (.cells #[u, .int .u64 (ep : Int)] 33)).alloc (.cells #[.int .i64 kind, .int .i64 n, .string s] 35)).heap.size = w.heap.size + 1 + 1 := by simp
  have r0 := heap_alloc_last w (.cells #[u, .int .u64 (ep : Int)] 33)
  have r1 := heap_alloc_last (w.alloc (.cells #[u, .int .u64 (ep : Int)] 33)) (.cells #[.int .i64 kind, .int .i64 n, .string s] 35)
  have r2 := heap_alloc_last ((w.alloc (.cells #[u, .int .u64 (ep : Int)] 33)).alloc (.cells #[.int .i64 kind, .int .i64 n, .string s] 35)) (.cells #[.slice none 0 0, .int .u64 0] 33)
  rw [s1] at r1
  rw [s2] at r2
  generalize w.alloc (.cells #[u, .int .u64 (ep : Int)] 33) = W1 at *
  have b1 : Below W1.heap.size W1 (W1.alloc (.cells #[.int .i64 kind, .int .i64 n, .string s] 35)) := (Below.refl _ _).alloc (Nat.le_refl _) _
  generalize W1.alloc (.cells #[.int .i64 kind, .int .i64 n, .string s] 35) = W2 at *
  have b2 : Below W2.heap.size W2 (W2.alloc (.cells #[.slice none 0 0, .int .u64 0] 33)) := (Below.refl _ _).alloc (Nat.le_refl _) _
  exact ⟨(b2.block _ (by omega)).trans ((b1.block _ (by omega)).trans r0), (b2.block _ (by omega)).trans r1, r2⟩
section
variable {w W W' : World} {u : Value} {ep : Nat} {kind n : Int} {s : ByteArray} {S : Nat → Prop}
theorem Ac.fr (h : Ac w W u ep kind n s) (f : Fr S W W') (hS : ∀ g, w.heap.size ≤ g → g < w.heap.size + 3 → ¬ S g) : Ac w W' u ep kind n s :=
  ⟨(f.block _ (lt_heap h.m) (hS _ (Nat.le_refl _) (by omega))).trans h.m, (f.block _ (lt_heap h.a) (hS _ (by omega) (by omega))).trans h.a, (f.block _ (lt_heap h.r) (hS _ (by omega) (by omega))).trans h.r⟩
theorem Ac.next (h : Ac w W u ep kind n s) (b : Below W.heap.size W W') : Ac w W' u ep kind n s := h.fr (Fr.of_below (S := fun _ => False) b) fun _ _ _ e => e
theorem Ac.m0 (h : Ac w W u ep kind n s) : W.cell? ⟨w.heap.size, 0, none⟩ = some u := by rw [cell_of_row _ _ 0 _ _ _ h.m]; rfl
theorem Ac.m1 (h : Ac w W u ep kind n s) : W.cell? ⟨w.heap.size, 1, none⟩ = some (.int .u64 (ep : Int)) := by rw [cell_of_row _ _ 1 _ _ _ h.m]; rfl
theorem Ac.a1 (h : Ac w W u ep kind n s) : W.cell? ⟨w.heap.size + 1, 1, none⟩ = some (.int .i64 n) := by rw [cell_of_row _ _ 1 _ _ _ h.a]; rfl
theorem Ac.a2 (h : Ac w W u ep kind n s) : W.cell? ⟨w.heap.size + 1, 2, none⟩ = some (.string s) := by rw [cell_of_row _ _ 2 _ _ _ h.a]; rfl
end
section
variable {K : Nat → Prop} {B w W W' : World} {gj gd : Nat} {J : Jr} {x : StD} {T : Nat → Prop} {v : Value}
/-- The blocks of a journal that was there ahead of a world are none of those behind it. -/
theorem js_not (h : JB K B w gj gd J x T v) : ∀ g, w.heap.size ≤ g → g < w.heap.size + 3 → ¬ js T gj v g := fun g hg _ => by
  rintro (e | e | e)
  · have := h.dk.lt _ e
    omega
  · have := h.lt
    omega
  · have := h.own.lt _ e
    omega
end
/-- Two cells of a block are written. -/
def st2 (w : World) (g : Nat) (a b : Value) : World := (w.setCell ⟨g, 0, none⟩ a).setCell ⟨g, 1, none⟩ b
theorem st2_row {w : World} {g : Nat} {p q a b : Value} {t : TypeId} (h : w.heap[g]? = some (.cells #[p, q] t (0, 0))) : (st2 w g a b).heap[g]? = some (.cells #[a, b] t (0, 0)) :=
  heap_setCell_same _ g 1 _ _ b (heap_setCell_same w g 0 _ _ a h)
theorem st2_fr (w : World) (g : Nat) (a b : Value) : Fr (fun k => k = g) w (st2 w g a b) := (Fr.setCell (S := fun k => k = g) w (p := ⟨g, 0, none⟩) rfl a).trans' (Fr.setCell (S := fun k => k = g) _ (p := ⟨g, 1, none⟩) rfl b)
theorem st2_size (w : World) (g : Nat) (a b : Value) : (st2 w g a b).heap.size = w.heap.size := by simp [st2, World.setCell]
section
variable {K : Nat → Prop} {B w W W' : World} {gj gd g : Nat} {J : Jr} {x : StD} {T : Nat → Prop} {v u : Value} {L : List ByteArray}
theorem JB.write (h : JB K B w gj gd J x T v) (f : Fr (fun k => k = g) w W) (hg : K g ∨ B.heap.size ≤ g) (hn : ¬ js T gj v g) : JB K B W gj gd J x T v := by
  have hb : ∀ k, k < w.heap.size → js T gj v k → W.heap[k]? = w.heap[k]? := fun k hk hj => f.block k hk fun e => hn (e ▸ hj)
  exact ⟨h.dk.frame f.size fun k hk => hb k (h.dk.lt k hk) (.inl hk), h.bel.far f fun k hk => hk ▸ hg, h.far, (hb gj h.lt (.inr (.inl rfl))).trans h.row, h.own.of_block f.size fun k hk => hb k (h.own.lt k hk) (.inr (.inr hk)), h.jfar, h.jT, h.vfar⟩
theorem MU.write (h : MU w T gj v u L) (f : Fr (fun k => k = g) w W) (hn : u.ownBlock ≠ some g) : MU W T gj v u L :=
  ⟨h.lx.fr (K := fun k => k = g) (fun k hk (e : k = g) => hn (e ▸ hk)) f, fun k hk => ⟨Nat.lt_of_lt_of_le (h.far k hk).1 f.size, (h.far k hk).2⟩, h.fm⟩
end
theorem resM {t : TypeId} {n : Nat} {z : Array Value} (A : Arr t n z) {fn : Func} {p u v : Tmp} (hf : fn.results = #[.tmp u, .cell p t, .tmp v]) (tmps : Array Value) (w : World) (g : Nat) (t' : TypeId) (c : Array Value) (hn : c.size = n)
    (hp : tmps.getD p undef = .pointer (some ⟨g, 0, none⟩)) (hg : w.heap[g]? = some (.cells c t' (0, 0))) (x : Value) (hx : tmps.getD u undef = x) (y : Value) (hy : tmps.getD v undef = y) : (results fn tmps).run Tryz.prog w = .ok (.tuple #[x, .agg c, y]) w := by
  subst hx hy
  have hp' : tmps[p]?.getD undef = .pointer (some ⟨g, 0, none⟩) := by simpa using hp
  rcases A.und with ⟨m, e, hd⟩ | ⟨fs, hd⟩ <;> simp [results, hf, hp', asAddr, run_loadVar_row w g t' t c (0, 0) _ hg hd rfl (by rw [A.info, hn])]
theorem AMd : Arr 33 2 #[.slice none 0 0, .int .u64 0] := ⟨.inr ⟨_, Tryz.underlying33⟩, by kernel_rfl, fun w => by kernel_rfl, fun w => by kernel_rfl, rfl⟩
section
set_option maxRecDepth 10000
set_option maxHeartbeats 2000000
variable {K : Nat → Prop} {B w : World} {gj gd : Nat} {x : StD} {T : Nat → Prop} {v : Value}
theorem act_flush {ep torn c : Nat} {L : List ByteArray} {u : Value} {kind n : Int} {s : ByteArray} (h : JB K B w gj gd ⟨logN, ep, L, torn, false⟩ x T v) (hu : MU w T gj v u L) (hd : Ds x ep L c) (hc : c < 60) (hk1 : wrap64 (kind.tmod 6 + 6) = kind.tmod 6 + 6) (hk : (kind.tmod 6 + 6).tmod 6 = 2) : Calls Tryz.prog 8 #[.pointer (some ⟨gj, 0, none⟩), .pointer (some ⟨gd, 0, none⟩), .agg #[u, .int .u64 (ep : Int)], .agg #[.int .i64 kind, .int .i64 n, .string s]] w fun e w' => AP K B gd c e w' := by
  obtain ⟨ao, cu, rfl⟩ := hu.lx.form
  have b0 := acW_bel w (.slice ao L.length cu) ep kind n s
  have AC := hide (acW_ac w (.slice ao L.length cu) ep kind n s)
  have H0 := hide (h.next b0)
  have H1 := hide (h.next b0).here
  have HJ := hide (js_not h)
  have HF := hide fun K' B' W T' (j : JB K' B' W gj gd ⟨logN, ep, L, torn, false⟩ x T' v) => flush_ok j rfl hd.vd hd.plan hd.live
  have HM := hide (hu.next b0)
  have HUn : Hid (∀ g, w.heap.size ≤ g → Value.ownBlock (.slice ao L.length cu) ≠ some g) := fun g hg e => by
    have := (hu.far g e).1
    omega
  have HBs : Hid (B.heap.size ≤ w.heap.size + 1 + 1) := by
    have := h.bel.size
    show _ ≤ _
    omega
  have DS := hide hd.sync.more
  have HLo := hide fun W T' (d : DK W gd (syC x) T') => loose_any gd (syC x) T' W d
  rw [show ((syC x).loose.length : Int) = 0 from rfl] at HLo
  unfold acW at *
  clear h hu hd hc b0
  go_enter Tryz.func8, Tryz.ntmps8
  go_upto_region 3 with fail
  generalize ((w.alloc (.cells #[.slice ao L.length cu, .int .u64 (ep : Int)] 33)).alloc (.cells #[.int .i64 kind, .int .i64 n, .string s] 35)).alloc (.cells #[.slice none 0 0, .int .u64 0] 33) = W0 at *
  have m0 := AC.out.m0
  have m1 := AC.out.m1
  refine wp_region_held_drew (S := fun W => W.cell? ⟨w.heap.size, 0, none⟩ = some (.slice ao L.length cu) ∧ W.cell? ⟨w.heap.size, 1, none⟩ = some (.int .u64 (ep : Int))) (by kernel_rfl) ⟨m0, m1⟩ (fun hH => ?_)
  refine wpAnyH_take (i := 0) (v := .pointer (some ⟨gj, 0, none⟩)) rfl (by kernel_rfl) (by kernel_rfl) (by kernel_rfl) (fun _ _ _ h => h) (yl_move (by rfl) _ (by rfl) _ (by rfl)) hH ?_
  change wpAnyH _ _ _ _ _ _ _ (Act.put _ (some 26) _) _
  simp only [Act.put, List.setIfInBounds_toArray, List.set_cons_zero, List.set_cons_succ]
  refine wpAnyH_take (i := 1) (v := .agg #[.slice ao L.length cu, .int .u64 (ep : Int)]) rfl (by kernel_rfl) (by kernel_rfl) (by kernel_rfl) (fun _ _ _ h => h) (.inl ⟨by rfl, fun W hS => by have c4 := hS.1; have c5 := hS.2; go_simp⟩) hH ?_
  change wpAnyH _ _ _ _ _ _ _ (Act.put _ (some 27) _) _
  simp only [Act.put, List.setIfInBounds_toArray, List.set_cons_zero, List.set_cons_succ]
  refine wpAnyH_take (i := 2) (v := .pointer (some ⟨gj, 0, none⟩)) rfl (by kernel_rfl) (by kernel_rfl) (by kernel_rfl) (fun _ _ _ h => h) (yl_move (by rfl) _ (by rfl) _ (by rfl)) hH ?_
  change wpAnyH _ _ _ _ _ _ _ (Act.put _ (some 28) _) _
  simp only [Act.put, List.setIfInBounds_toArray, List.set_cons_zero, List.set_cons_succ]
  refine wpAnyH_ready (rs := [3]) (by kernel_rfl) (by simp) (AllReadyH.cons rfl (fun K1 hK1 => ?_) AllReadyH.nil)
  go_simp
  refine (HF.out _ _ _ _ (H1.out.next (Below.refl _ _).drew)).mono ?_
  rintro e w3 ⟨rfl, T3, j3⟩
  have J3 := hide j3
  have A3 := hide (AC.out.fr j3.bel HJ.out)
  clear j3
  refine hK1.out _ _ ⟨A3.out.m0, A3.out.m1⟩ (fun hH => ?_)
  clear hK1
  refine wpAnyH_take (i := 4) (v := .bool true) rfl (by kernel_rfl) (by kernel_rfl) (by kernel_rfl) (fun _ _ _ h => h) (.inl ⟨by rfl, fun W _ => by go_simp⟩) hH ?_
  change wpAnyH _ _ _ _ _ _ _ (Act.put _ (some 30) _) _
  simp only [Act.put, List.setIfInBounds_toArray, List.set_cons_zero, List.set_cons_succ]
  refine wpAnyH_take (i := 5) (v := .bool true) rfl (by kernel_rfl) (by kernel_rfl) (by kernel_rfl) (fun _ _ _ h => h) (yl_move (by rfl) _ (by rfl) _ (by rfl)) hH ?_
  change wpAnyH _ _ _ _ _ _ _ (Act.put _ (some 31) _) _
  simp only [Act.put, List.setIfInBounds_toArray, List.set_cons_zero, List.set_cons_succ]
  refine wpAnyH_take (i := 6) (v := .pointer (some ⟨gd, 0, none⟩)) rfl (by kernel_rfl) (by kernel_rfl) (by kernel_rfl) (fun _ _ _ h => h) (yl_move (by rfl) _ (by rfl) _ (by rfl)) hH ?_
  change wpAnyH _ _ _ _ _ _ _ (Act.put _ (some 32) _) _
  simp only [Act.put, List.setIfInBounds_toArray, List.set_cons_zero, List.set_cons_succ]
  refine wpAnyH_ready (rs := [7]) (by kernel_rfl) (by simp) (AllReadyH.cons rfl (fun K1 hK1 => ?_) AllReadyH.nil)
  go_simp
  refine (HLo.out _ _ J3.out.dk).mono ?_
  rintro e w4 ⟨rfl, hw⟩
  subst w4
  refine hK1.out _ _ ⟨A3.out.m0, A3.out.m1⟩ (fun hH => ?_)
  clear hK1
  refine wpAnyH_take (i := 8) (v := .bool true) rfl (by kernel_rfl) (by kernel_rfl) (by kernel_rfl) (fun _ _ _ h => h) (.inl ⟨by rfl, fun W _ => by go_simp⟩) hH ?_
  change wpAnyH _ _ _ _ _ _ _ (Act.put _ (some 34) _) _
  simp only [Act.put, List.setIfInBounds_toArray, List.set_cons_zero, List.set_cons_succ]
  refine wpAnyH_take (i := 9) (v := .bool true) rfl (by kernel_rfl) (by kernel_rfl) (by kernel_rfl) (fun _ _ _ h => h) (.inl ⟨by rfl, fun W _ => by go_simp⟩) hH ?_
  change wpAnyH _ _ _ _ _ _ _ (Act.put _ (some 35) _) _
  simp only [Act.put, List.setIfInBounds_toArray, List.set_cons_zero, List.set_cons_succ]
  refine wpAnyH_take (i := 10) (v := .pointer (some ⟨gj, 0, none⟩)) rfl (by kernel_rfl) (by kernel_rfl) (by kernel_rfl) (fun _ _ _ h => h) (.inl ⟨by rfl, fun W _ => by go_simp⟩) hH ?_
  change wpAnyH _ _ _ _ _ _ _ (Act.put _ (some 8) _) _
  simp only [Act.put, List.setIfInBounds_toArray, List.set_cons_zero, List.set_cons_succ]
  have q0 : w3.cell? ⟨w.heap.size + 1 + 1, 0, none⟩ = some (.slice none 0 0) := by rw [cell_of_row _ _ 0 _ _ _ A3.out.r]; rfl
  have q1 : w3.cell? ⟨w.heap.size + 1 + 1, 1, none⟩ = some (.int .u64 0) := by rw [cell_of_row _ _ 1 _ _ _ A3.out.r]; rfl
  have f0 := frozen_of_row _ _ 0 _ _ A3.out.r
  have f1 := frozen_of_row _ _ 1 _ _ A3.out.r
  refine wpAnyH_ready (rs := [11]) (by kernel_rfl) (by simp) (AllReadyH.cons rfl (fun K1 hK1 => ?_) AllReadyH.nil)
  go_simp
  have R5 := hide (st2_row (a := .slice ao L.length cu) (b := .int .u64 (ep : Int)) A3.out.r)
  have F5 := hide (st2_fr w3 (w.heap.size + 1 + 1) (.slice ao L.length cu) (.int .u64 (ep : Int)))
  have M5 : Hid ((st2 w3 (w.heap.size + 1 + 1) (.slice ao L.length cu) (.int .u64 (ep : Int))).heap[w.heap.size]? = some (.cells #[.slice ao L.length cu, .int .u64 (ep : Int)] 33 (0, 0))) := (F5.out.block _ (lt_heap A3.out.m) (by omega)).trans A3.out.m
  refine hK1.out _ (st2 w3 (w.heap.size + 1 + 1) (.slice ao L.length cu) (.int .u64 (ep : Int))) ⟨by rw [cell_of_row _ _ 0 _ _ _ M5.out]; rfl, by rw [cell_of_row _ _ 1 _ _ _ M5.out]; rfl⟩ (fun hH => ?_)
  clear hK1 q0 q1 f0 f1
  refine wpAnyH_take (i := 12) (v := .bool true) rfl (by kernel_rfl) (by kernel_rfl) (by kernel_rfl) (fun _ _ _ h => h) (.inl ⟨by rfl, fun W _ => by go_simp⟩) hH ?_
  change wpAnyH _ _ _ _ _ _ _ (Act.put _ (some 10) _) _
  simp only [Act.put, List.setIfInBounds_toArray, List.set_cons_zero, List.set_cons_succ]
  refine wpAnyH_done (by kernel_rfl) ?_ _
  have FIN : Hid (∀ e, e = .returned (.tuple #[.pointer (some ⟨gj, 0, none⟩), .agg #[.slice ao L.length cu, .int .u64 (ep : Int)], .bool true]) → AP K B gd c e (st2 w3 (w.heap.size + 1 + 1) (.slice ao L.length cu) (.int .u64 (ep : Int)))) := fun e he => by
    have hn : ¬ js T3 gj v (w.heap.size + 1 + 1) := fun c => by
      have hl := H1.out.bel
      have : js T3 gj v (w.heap.size + 1 + 1) → js T gj v (w.heap.size + 1 + 1) ∨ W0.heap.size ≤ w.heap.size + 1 + 1 := by
        rintro (c | c | c)
        · exact J3.out.far _ c
        · exact c ▸ J3.out.jfar
        · exact (J3.out.vfar _ c).1
      have hlt := lt_heap AC.out.r
      rcases this c with c | c
      · exact HJ.out _ (by omega) (by omega) c
      · omega
    have hB : B.heap.size ≤ w.heap.size + 1 + 1 := HBs.out
    refine ⟨gj, _, ep, L, torn, _, T3, v, he, (H0.out.back J3.out).write F5.out (.inr hB) hn, (HM.out.over J3.out).write F5.out (fun c => ?_), DS.out⟩
    exact HUn.out _ (by omega) c
  generalize hW5 : st2 w3 (w.heap.size + 1 + 1) (.slice ao L.length cu) (.int .u64 (ep : Int)) = W5 at *
  clear F5 M5 J3 H0 H1 HM A3 AC
  go_wp2
  (try simp only [Exit.inBlock, Exit.then])
  refine bodyPost_ret (resM AMd rfl _ _ (w.heap.size + 1 + 1) _ _ rfl rfl R5.out _ rfl _ rfl) rfl ?_
  exact FIN.out _ rfl
end
end Go.Proofs.YtgncphoaknffnaaGreatDoor
