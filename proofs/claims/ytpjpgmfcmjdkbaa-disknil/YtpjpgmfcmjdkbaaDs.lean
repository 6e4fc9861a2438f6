/- The contract of Sync. -/
import Derived.Test.YtpjpgmfcmjdkbaaDr
namespace Go.Proofs.Ytpjpgmfcmjdkbaa
open Go.RowKit
open Go.Deep
open Go.Lib
theorem cutv_all {w : World} {v : Value} {l : List Ch} (h : w.ownsRow 0 90 5 v l.length (chs l)) : cutv v l.length = v := by
  obtain ⟨ao, c, rfl⟩ := loose_form h
  rfl
/-- A disk whose changes are all sure. -/
def syC (x : St) : St := { x with sure := doL x.sure x.loose, loose := [] }
section
set_option maxRecDepth 10000
set_option maxHeartbeats 4000000
theorem sync_nil (w : World) : Calls Try.prog 12 #[.pointer none] w fun e w' => e = .returned (.int .i64 7) ∧ w' = w := by
  have HD := hide fun W => dead_nil W
  go_enter Try.func12, Try.ntmps12
  go_wp2_with (go_at_call 26; refine (HD.out _).mono ?_; rintro e w1 ⟨rfl, hw⟩; subst w1)
  go_ret
  exact ⟨rfl, rfl⟩
theorem sync_ok (gd : Nat) (x : St) (T : Nat → Prop) (w : World) (h : DK w gd x T) (hV : Vd x) (hp : x.plan = []) (hdd : x.dead = false) : Calls Try.prog 12 #[.pointer (some ⟨gd, 0, none⟩)] w fun e w' => e = .returned (.int .i64 0) ∧ DK w' gd (syC x) (grow T w w') ∧ Fr T w w' := by
  have HS := hide (strikes_none gd x T true w h hp)
  have HL := hide h.lt
  obtain ⟨S1, S2, mn, ms, vo, vp, h⟩ := h
  have c5 := h.cell 5 (by decide)
  rw [show dc mn ms vo vp x.made x.dead 5 = .bool x.dead from rfl, hdd] at c5
  have HD := hide (dead_cell gd false w c5)
  have H0 := hide h
  have HV := hide hV
  obtain ⟨ao, cc, rfl⟩ := loose_form h.loose
  clear h hV hp c5
  go_enter Try.func12, Try.ntmps12
  go_upto_region 3 with (first | (go_at_call 26; refine HD.out.mono ?_; rintro e w1 ⟨rfl, hw⟩; subst w1) | (go_at_call 39; refine HS.out.mono ?_; rintro e w1 ⟨rfl, hb1⟩; have B1 := hide hb1; clear hb1))
  have D1 := hide (H0.out.below B1.out)
  have x2 := D1.out.cell 2 (by decide)
  rw [show dc mn ms (.slice ao x.loose.length cc) vp x.made x.dead 2 = .slice ao x.loose.length cc from rfl] at x2
  have X2 := hide x2
  have LL := LC.of_rows D1.out.loose x.loose.length (Nat.le_refl _)
  rw [cutv_all D1.out.loose, List.take_length] at LL
  have D1d := hide (D1.out.below (Below.refl w1.heap.size w1).drew)
  have HP := hide (play_any gd 1 6 65 _ (by decide) ms x.sure S2 _ _ x.loose w1.drew D1d.out.row rfl D1d.out.sure D1d.out.d2 (LL.of_block rfl) (fun h0 => by
    have hb := loose_blk D1d.out.loose h0
    exact ⟨D1d.out.lt _ (D1d.out.tl _ hb), (D1d.out.l1 _ hb).2.1, (D1d.out.l1 _ hb).2.2⟩) HV.out.ok.okL (by have := HV.out.many; omega))
  clear LL x2
  refine wp_region_held_drew (S := fun W => W.cell? ⟨gd, 2, none⟩ = some (.slice ao x.loose.length cc)) (by kernel_rfl) X2.out (fun hH => ?_)
  refine wpAnyH_take (i := 0) (v := .pointer (some ⟨gd, 0, none⟩)) rfl (by kernel_rfl) (by kernel_rfl) (by kernel_rfl) (fun _ _ _ h => h) (yl_move (by rfl) _ (by rfl) _ (by rfl)) hH ?_
  change wpAnyH _ _ _ _ _ _ _ (Act.put _ (some 9) _) _
  simp only [Act.put, List.setIfInBounds_toArray, List.set_cons_zero, List.set_cons_succ]
  refine wpAnyH_take (i := 1) (v := .pointer (some ⟨gd, 0, none⟩)) rfl (by kernel_rfl) (by kernel_rfl) (by kernel_rfl) (fun _ _ _ h => h) (.inl ⟨by rfl, fun W _ => by go_simp⟩) hH ?_
  change wpAnyH _ _ _ _ _ _ _ (Act.put _ (some 10) _) _
  simp only [Act.put, List.setIfInBounds_toArray, List.set_cons_zero, List.set_cons_succ]
  refine wpAnyH_take (i := 2) (v := .pointer (some ⟨gd, 1, none⟩)) rfl (by kernel_rfl) (by kernel_rfl) (by kernel_rfl) (fun _ _ _ h => h) (.inl ⟨by rfl, fun W _ => by go_simp⟩) hH ?_
  change wpAnyH _ _ _ _ _ _ _ (Act.put _ (some 11) _) _
  simp only [Act.put, List.setIfInBounds_toArray, List.set_cons_zero, List.set_cons_succ]
  refine wpAnyH_take (i := 3) (v := .pointer (some ⟨gd, 0, none⟩)) rfl (by kernel_rfl) (by kernel_rfl) (by kernel_rfl) (fun _ _ _ h => h) (yl_move (by rfl) _ (by rfl) _ (by rfl)) hH ?_
  change wpAnyH _ _ _ _ _ _ _ (Act.put _ (some 12) _) _
  simp only [Act.put, List.setIfInBounds_toArray, List.set_cons_zero, List.set_cons_succ]
  refine wpAnyH_take (i := 4) (v := .pointer (some ⟨gd, 0, none⟩)) rfl (by kernel_rfl) (by kernel_rfl) (by kernel_rfl) (fun _ _ _ h => h) (.inl ⟨by rfl, fun W _ => by go_simp⟩) hH ?_
  change wpAnyH _ _ _ _ _ _ _ (Act.put _ (some 13) _) _
  simp only [Act.put, List.setIfInBounds_toArray, List.set_cons_zero, List.set_cons_succ]
  refine wpAnyH_take (i := 5) (v := .pointer (some ⟨gd, 2, none⟩)) rfl (by kernel_rfl) (by kernel_rfl) (by kernel_rfl) (fun _ _ _ h => h) (.inl ⟨by rfl, fun W _ => by go_simp⟩) hH ?_
  change wpAnyH _ _ _ _ _ _ _ (Act.put _ (some 14) _) _
  simp only [Act.put, List.setIfInBounds_toArray, List.set_cons_zero, List.set_cons_succ]
  refine wpAnyH_take (i := 6) (v := .slice ao x.loose.length cc) rfl (by kernel_rfl) (by kernel_rfl) (by kernel_rfl) (fun _ _ _ h => h) (.inl ⟨by rfl, fun W hS => by have c4 := hS; go_simp⟩) hH ?_
  change wpAnyH _ _ _ _ _ _ _ (Act.put _ (some 15) _) _
  simp only [Act.put, List.setIfInBounds_toArray, List.set_cons_zero, List.set_cons_succ]
  refine wpAnyH_ready (rs := [7]) (by kernel_rfl) (by simp) (AllReadyH.cons rfl (fun K1 hK1 => ?_) AllReadyH.nil)
  go_simp
  refine HP.out.mono ?_
  rintro e w3 ⟨⟨r, rfl⟩, b3, F3, f3, row3, fr3⟩
  have P3 := hide (D1d.out.played1 f3 row3 fr3)
  have y2 := P3.out.1.cell 2 (by decide)
  rw [show dc mn (some b3) (.slice ao x.loose.length cc) vp x.made x.dead 2 = .slice ao x.loose.length cc from rfl] at y2
  have z2 := World.rowIs.frozen P3.out.1.row 2
  have FIN : Hid (DK (w3.setCell ⟨gd, 2, none⟩ (.slice none 0 0)) gd (syC x) (grow T w (w3.setCell ⟨gd, 2, none⟩ (.slice none 0 0))) ∧ Fr T w (w3.setCell ⟨gd, 2, none⟩ (.slice none 0 0))) := by
    have hsz : (w3.setCell ⟨gd, 2, none⟩ (.slice none 0 0)).heap.size = w3.heap.size := by simp [World.setCell]
    have hb1 : Below w.heap.size w w1.drew := B1.out.drew
    have fr := ((Fr.of_below (S := T) hb1).trans' P3.out.2).trans' (Fr.setCell w3 (p := ⟨gd, 2, none⟩) H0.out.tg (.slice none 0 0))
    refine ⟨⟨_, _, _, _, _, _, P3.out.1.noLoose.wide (fun g hg => ?_) (grow_lt HL.out fr.size)⟩, fr⟩
    rcases hg with e | ⟨e1, e2⟩
    · exact .inl e
    · exact .inr ⟨Nat.le_trans hb1.size e1, by rw [hsz]; exact e2⟩
  clear f3 row3 fr3
  refine hK1.out _ _ y2 (fun hH => ?_)
  clear hK1 P3 HP D1d D1 X2
  refine wpAnyH_done (by kernel_rfl) ?_ _
  go_wp2
  go_ret
  exact ⟨rfl, FIN.out⟩
end
end Go.Proofs.Ytpjpgmfcmjdkbaa
