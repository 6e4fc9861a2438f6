/- A stream: the contract of Next. -/
import Derived.Test.YtjcfojedahgfpaaDoorFm
namespace Go.Proofs.YtjcfojedahgfpaaDoor
open Go.RowKit
open Go.Deep
theorem headM_4 {m : Nat} {s : List UInt8} (h : (headM m s).err = 4) : s.length < 24 := by
  revert h
  unfold headM
  (repeat' split) <;> simp
  omega
theorem Sq.whole_ok {x : Sq} (h : x.frontE = 0) (hl : x.whole ≤ x.held.length) : (headM x.magic x.held).err = 0 := by
  unfold Sq.frontE at h
  unfold Sq.whole at hl
  split at h
  · rename_i h4
    have := headM_4 h4
    omega
  · exact h
section
variable {Q : List (Nat × Obj)} {B W W' : World} {b : Nat} {v v' : Value} {x : Sq}
theorem Sm.putRow (h : Sm Q B W b v x) (g : Nat) (hg : B.heap.size ≤ g) (hb : g ≠ b) (hv : ∀ k, v.ownBlock = some k → k ≠ g) (hq : ∀ p ∈ Q, p.1 ≠ g) (c : Array Value) : Sm Q B (W.setRow g c) b v x :=
  ⟨(setRow_other W g b c (Ne.symm hb)).trans h.row, h.om.kept (fun k hk => setRow_other W g k c (hv k hk)) (by rw [setRow_size]; exact Nat.le_refl _), below_setRow h.bel hg c, h.fb, h.fv, h.long, h.mag, fun p hp => ⟨(setRow_other W g p.1 c (hq p hp)).trans (h.keep p hp).1, (h.keep p hp).2⟩⟩
end
/-- What Next tells, as values. -/
def Nx.vals (n : Nx) : Value := .tuple #[.agg (fr2 n.cmd n.pay), .bool n.ok, .int .i64 n.err]
section
set_option maxRecDepth 10000
set_option maxHeartbeats 4000000
variable {Q : List (Nat × Obj)} {B W : World} {b : Nat} {v : Value} {x : Sq}
theorem next_any (h : Sm Q B W b v x) (hK : Kg W) : Calls Tryd.prog 18 #[.pointer (some ⟨b, 0, none⟩)] W fun e w' => e = .returned x.next.2.vals ∧ ∃ v', Sm Q B w' b v' x.next.1 := by
  have b1 : Below W.heap.size W (W.alloc (.cells fz2 24)) := (Below.refl _ _).alloc (Nat.le_refl _) _
  have R1 := hide (heap_alloc_last W (.cells fz2 24))
  have J1 := hide (h.next b1)
  have G1 : Hid (B.heap.size ≤ W.heap.size ∧ W.heap.size ≠ b ∧ ∀ k, v.ownBlock = some k → k ≠ W.heap.size) := ⟨h.bel.size, (by have := h.lt; omega), fun k hk => by have := h.om.lt k hk; omega⟩
  have KW := hide (hK.next b1)
  have GQ : Hid (∀ p ∈ Q, p.1 ≠ W.heap.size) := fun p hp => by have := lt_heap (h.keep p hp).1; omega
  clear h hK b1
  generalize hN : x.next = N
  have HN := hide hN
  clear hN
  unfold Sq.next at HN
  go_enter Tryd.func18, Tryd.ntmps18
  go_upto_region 1 with (refine wpList_allocA AF rfl rfl ?_)
  generalize W.alloc (.cells fz2 24) = W1 at *
  generalize W.heap.size = g0 at *
  have HB := hide (broken_any J1.out)
  by_cases hb : x.broken = 0
  · rw [if_neg (by simp [hb])] at HN
    rw [hb] at HB
    have HF := hide (front_any J1.out)
    go_upto_region 5 with (first | (go_at_call 20; refine HB.out.mono ?_; rintro e w2 ⟨rfl, hw⟩; subst w2) | (go_at_call 36; refine HF.out.mono ?_; rintro e W2 ⟨rfl, b2⟩; have J2 := hide (J1.out.next b2); have R2 := hide ((b2.block _ (lt_heap R1.out)).trans R1.out); have K2 := hide (KW.out.next b2); clear b2))
    clear HB HF R1 J1 KW
    by_cases hf : x.frontE = 0
    · rw [if_neg (by simp [hf])] at HN
      have hl := J2.out.long
      have hwl : x.whole ≤ 16408 := by
        have := headM_long x.magic x.held
        unfold Sq.whole
        omega
      have y1 := J2.out.c1
      by_cases hlt : (x.held.length : Int) < (x.whole : Int)
      · rw [if_pos (by omega)] at HN
        obtain ⟨ao, cap, rfl, _⟩ := J2.out.om.form
        have J3 := hide (J2.out.putRow g0 G1.out.1 G1.out.2.1 G1.out.2.2 GQ.out fz2)
        rw [hf]
        generalize x.whole = wh at *
        generalize x.held.length = L at *
        go_wp2_with (first | refine wpList_buildA AF rfl rfl ?_ | refine wpList_storeA AF rfl _ _ rfl g0 fz2 rfl fz2_one rfl rfl fz2 rfl 24 R2.out ?_)
        exact bodyPost_ret (v := .tuple #[.agg fz2, .bool false, .int .i64 0]) (resA3 AF Tryd.results18 _ _ g0 24 fz2 rfl rfl (setRow_heap _ _ _ _ _ _ R2.out) _ (by rfl) _ (by rfl)) rfl ⟨by rw [← HN.out]; rfl, _, by rw [← HN.out]; exact J3.out⟩
      · rw [if_neg (by omega)] at HN
        have herr := Sq.whole_ok hf (by omega)
        have hwd : x.whole = 24 + (headM x.magic x.held).long := rfl
        have hdt := decM_take x.magic x.held herr (by omega)
        rw [← hwd] at hdt
        have hde := decM_err0 x.magic x.held herr (by omega)
        obtain ⟨ao, cap, rfl, hcap⟩ := J2.out.om.form
        have hc1 := hcap.out
        have HS : Hid (∀ W', Below W2.heap.size W2 W' → W'.cell? ⟨b, 0, none⟩ = some (.int .u32 (x.magic : Int)) ∧ W'.cell? ⟨b, 1, none⟩ = some (.slice ao x.held.length cap) ∧ (convert 63 9 (.slice ao x.whole cap)).run Tryd.prog W' = .ok (.string (txt (x.held.take x.whole))) W') := fun W' hb => ⟨(J2.out.next hb).c0, (J2.out.next hb).c1, (J2.out.next hb).om.conv _ (by omega)⟩
        have HD : Hid (∀ W', Kg W' → Calls Tryd.prog 13 #[.int .u32 (x.magic : Int), .string (txt (x.held.take x.whole)), .int .i64 0] W' fun e w' => e = .returned (decM x.magic x.held 0).valp ∧ Below W'.heap.size W' w') := fun W' hK => by
          have := decode_any x.magic J2.out.mag (txt (x.held.take x.whole)) (by rw [txt_size, List.length_take]; omega) 0 W' hK
          rw [txt_list, hdt] at this
          exact this
        have HKW : Hid (∀ W', Below W2.heap.size W2 W' → Kg W') := fun W' hb => K2.out.next hb
        have HC : Hid (∀ W', Below W2.heap.size W2 W' → ∀ g o, ao = some ⟨g, o, none⟩ → OM W' (.slice (some ⟨g, o + x.whole, none⟩) (x.held.length - x.whole) (cap - x.whole)) (x.held.drop x.whole) ∧ (cap = x.whole → OM W' (.slice (some ⟨g, o, none⟩) 0 0) (x.held.drop x.whole))) := fun W' hb g o e => by
          subst e
          exact (J2.out.next hb).om.cut x.whole (by omega)
        have HAO : Hid (∃ g o, ao = some ⟨g, o, none⟩) := by
          rcases J2.out.om with ⟨e, e2⟩ | ⟨g, o, c, e, _⟩
          · have h0 : x.held.length = 0 := by rw [e2]; rfl
            omega
          · injection e with e1
            exact ⟨g, o, e1⟩
        have hw24 : 24 ≤ x.whole := by omega
        generalize hD : decM x.magic x.held 0 = D at *
        obtain ⟨de, dc, dp, dl⟩ := D
        simp only at HN hde
        obtain ⟨gv, ov, rfl⟩ := HAO.out
        clear herr hwd hdt hD HAO y1 hcap
        rw [hf]
        generalize txt (x.held.take x.whole) = T at *
        generalize hwh : x.whole = wh at *
        generalize hL : x.held.length = L at *
        generalize hmg : x.magic = mg at *
        have y1 := (HS.out W2 (Below.refl _ _)).2.1
        have hwc : (wh : Int) ≤ (cap : Int) := by omega
        go_upto_region 10 with fail
        clear y1
        go_cut [7, 8, 9, 40] from 41 to 55 (fun s7 s8 s9 s40 wx => ∃ g, s8 = .pointer (some ⟨g, 0, none⟩) ∧ s7 = .int .i64 de ∧ Hid (wx.heap[g]? = some (.cells (fr2 dc dp) 24 (0, 0))) ∧ Hid (Below W2.heap.size W2 wx) ∧ Hid (W2.heap.size ≤ g))
        case first =>
          refine wp_region_held_drew (S := fun W' => Below W2.heap.size W2 W') (by kernel_rfl) (below_drew (Below.refl _ _)) (fun hH => ?_)
          refine wpAnyH_take (i := 0) (v := .pointer (some ⟨b, 0, none⟩)) rfl (by kernel_rfl) (by kernel_rfl) (by kernel_rfl) (fun _ _ _ h => h) (yl_move (by rfl) _ (by rfl) _ (by rfl)) hH ?_
          change wpAnyH _ _ _ _ _ _ _ (Act.put _ (some 41) _) _
          simp only [Act.put, List.setIfInBounds_toArray, List.set_cons_zero, List.set_cons_succ]
          refine wpAnyH_take (i := 1) (v := .pointer (some ⟨b, 0, none⟩)) rfl (by kernel_rfl) (by kernel_rfl) (by kernel_rfl) (fun _ _ _ h => h) (.inl ⟨by rfl, fun W _ => by go_simp⟩) hH ?_
          change wpAnyH _ _ _ _ _ _ _ (Act.put _ (some 42) _) _
          simp only [Act.put, List.setIfInBounds_toArray, List.set_cons_zero, List.set_cons_succ]
          refine wpAnyH_take (i := 2) (v := .pointer (some ⟨b, 0, none⟩)) rfl (by kernel_rfl) (by kernel_rfl) (by kernel_rfl) (fun _ _ _ h => h) (.inl ⟨by rfl, fun W _ => by go_simp⟩) hH ?_
          change wpAnyH _ _ _ _ _ _ _ (Act.put _ (some 43) _) _
          simp only [Act.put, List.setIfInBounds_toArray, List.set_cons_zero, List.set_cons_succ]
          refine wpAnyH_take (i := 3) (v := .int .u32 (mg : Int)) rfl (by kernel_rfl) (by kernel_rfl) (by kernel_rfl) (fun _ _ _ h => h) (.inl ⟨by rfl, fun W hS => by have c4 := (HS.out W hS).1; go_simp⟩) hH ?_
          change wpAnyH _ _ _ _ _ _ _ (Act.put _ (some 44) _) _
          simp only [Act.put, List.setIfInBounds_toArray, List.set_cons_zero, List.set_cons_succ]
          refine wpAnyH_take (i := 4) (v := .pointer (some ⟨b, 0, none⟩)) rfl (by kernel_rfl) (by kernel_rfl) (by kernel_rfl) (fun _ _ _ h => h) (yl_move (by rfl) _ (by rfl) _ (by rfl)) hH ?_
          change wpAnyH _ _ _ _ _ _ _ (Act.put _ (some 45) _) _
          simp only [Act.put, List.setIfInBounds_toArray, List.set_cons_zero, List.set_cons_succ]
          refine wpAnyH_take (i := 5) (v := .pointer (some ⟨b, 0, none⟩)) rfl (by kernel_rfl) (by kernel_rfl) (by kernel_rfl) (fun _ _ _ h => h) (.inl ⟨by rfl, fun W _ => by go_simp⟩) hH ?_
          change wpAnyH _ _ _ _ _ _ _ (Act.put _ (some 46) _) _
          simp only [Act.put, List.setIfInBounds_toArray, List.set_cons_zero, List.set_cons_succ]
          refine wpAnyH_take (i := 6) (v := .pointer (some ⟨b, 1, none⟩)) rfl (by kernel_rfl) (by kernel_rfl) (by kernel_rfl) (fun _ _ _ h => h) (.inl ⟨by rfl, fun W _ => by go_simp⟩) hH ?_
          change wpAnyH _ _ _ _ _ _ _ (Act.put _ (some 47) _) _
          simp only [Act.put, List.setIfInBounds_toArray, List.set_cons_zero, List.set_cons_succ]
          refine wpAnyH_take (i := 7) (v := .slice (some ⟨gv, ov, none⟩) L cap) rfl (by kernel_rfl) (by kernel_rfl) (by kernel_rfl) (fun _ _ _ h => h) (.inl ⟨by rfl, fun W hS => by have c4 := (HS.out W hS).2.1; go_simp⟩) hH ?_
          change wpAnyH _ _ _ _ _ _ _ (Act.put _ (some 48) _) _
          simp only [Act.put, List.setIfInBounds_toArray, List.set_cons_zero, List.set_cons_succ]
          refine wpAnyH_take (i := 8) (v := .int .i64 (wh : Int)) rfl (by kernel_rfl) (by kernel_rfl) (by kernel_rfl) (fun _ _ _ h => h) (yl_move (by rfl) _ (by rfl) _ (by rfl)) hH ?_
          change wpAnyH _ _ _ _ _ _ _ (Act.put _ (some 49) _) _
          simp only [Act.put, List.setIfInBounds_toArray, List.set_cons_zero, List.set_cons_succ]
          refine wpAnyH_take (i := 9) (v := .slice (some ⟨gv, ov, none⟩) wh cap) rfl (by kernel_rfl) (by kernel_rfl) (by kernel_rfl) (fun _ _ _ h => h) (.inl ⟨by rfl, fun W _ => by go_simp⟩) hH ?_
          change wpAnyH _ _ _ _ _ _ _ (Act.put _ (some 50) _) _
          simp only [Act.put, List.setIfInBounds_toArray, List.set_cons_zero, List.set_cons_succ]
          refine wpAnyH_take (i := 10) (v := .string T) rfl (by kernel_rfl) (by kernel_rfl) (by kernel_rfl) (fun _ _ _ h => h) (.inl ⟨by rfl, fun W hS => by have c4 := (HS.out W hS).2.2; go_simp⟩) hH ?_
          change wpAnyH _ _ _ _ _ _ _ (Act.put _ (some 51) _) _
          simp only [Act.put, List.setIfInBounds_toArray, List.set_cons_zero, List.set_cons_succ]
          refine wpAnyH_ready (rs := [11, 16]) (by kernel_rfl) (by simp) (AllReadyH.cons rfl (fun K1 hK1 => ?_) (AllReadyH.cons rfl (fun K1 hK1 => ?_) AllReadyH.nil))
          · go_simp
            refine (HD.out _ (HKW.out _ hH)).mono ?_
            rintro e w3 ⟨rfl, b3⟩
            unfold Dc.valp
            refine hK1.out _ _ (below_next hH b3) (fun hH => ?_)
            clear hK1
            refine wpAnyH_take (i := 12) (v := .tuple #[.agg (fr2 dc dp), .int .i64 dl, .int .i64 de]) rfl (by kernel_rfl) (by kernel_rfl) (by kernel_rfl) (fun _ _ _ h => h) (yl_move (by rfl) _ (by rfl) _ (by rfl)) hH ?_
            change wpAnyH _ _ _ _ _ _ _ (Act.put _ (some 40) _) _
            simp only [Act.put, List.setIfInBounds_toArray, List.set_cons_zero, List.set_cons_succ]
            refine wpAnyH_take (i := 13) (v := .agg (fr2 dc dp)) rfl (by kernel_rfl) (by kernel_rfl) (by kernel_rfl) (fun _ _ _ h => h) (.inl ⟨by rfl, fun W _ => by go_simp⟩) hH ?_
            change wpAnyH _ _ _ _ _ _ _ (Act.put _ (some 53) _) _
            simp only [Act.put, List.setIfInBounds_toArray, List.set_cons_zero, List.set_cons_succ]
            refine wpAnyH_take (i := 14) (v := .int .i64 dl) rfl (by kernel_rfl) (by kernel_rfl) (by kernel_rfl) (fun _ _ _ h => h) (.inl ⟨by rfl, fun W _ => by go_simp⟩) hH ?_
            change wpAnyH _ _ _ _ _ _ _ (Act.put _ (some 54) _) _
            simp only [Act.put, List.setIfInBounds_toArray, List.set_cons_zero, List.set_cons_succ]
            refine wpAnyH_take (i := 15) (v := .int .i64 de) rfl (by kernel_rfl) (by kernel_rfl) (by kernel_rfl) (fun _ _ _ h => h) (.inl ⟨by rfl, fun W _ => by go_simp⟩) hH ?_
            change wpAnyH _ _ _ _ _ _ _ (Act.put _ (some 55) _) _
            simp only [Act.put, List.setIfInBounds_toArray, List.set_cons_zero, List.set_cons_succ]
            refine wpAnyH_ready (rs := [16]) (by kernel_rfl) (by simp) (AllReadyH.cons rfl (fun K1 hK1 => ?_) AllReadyH.nil)
            refine stepAllocA AF (by rfl) (by rfl) ?_
            refine hK1.out _ _ (hH.alloc hH.size _) (fun hH => ?_)
            clear hK1
            change wpAnyH _ _ _ _ _ _ _ (Act.put _ (some 8) _) _
            simp only [Act.put, List.setIfInBounds_toArray, List.set_cons_zero, List.set_cons_succ]
            refine wpAnyH_ready (rs := [17]) (by kernel_rfl) (by simp) (AllReadyH.cons rfl (fun K1 hK1 => ?_) AllReadyH.nil)
            refine stepStoreA AF (by rfl) _ _ (by rfl) w3.heap.size (fr2 dc dp) rfl (fr2_one _ _) (by rfl) (by rfl) fz2 rfl 24 (heap_alloc_last _ _) ?_
            refine hK1.out _ _ (below_setRow hH (Nat.le_trans (Nat.le_refl _) b3.size) _) (fun hH => ?_)
            clear hK1
            change wpAnyH _ _ _ _ _ _ _ (Act.put _ none _) _
            simp only [Act.put]
            refine wpAnyH_take (i := 18) (v := .int .i64 dl) rfl (by kernel_rfl) (by kernel_rfl) (by kernel_rfl) (fun _ _ _ h => h) (.inl ⟨by rfl, fun W _ => by go_simp⟩) hH ?_
            change wpAnyH _ _ _ _ _ _ _ (Act.put _ (some 9) _) _
            simp only [Act.put, List.setIfInBounds_toArray, List.set_cons_zero, List.set_cons_succ]
            refine wpAnyH_take (i := 19) (v := .int .i64 de) rfl (by kernel_rfl) (by kernel_rfl) (by kernel_rfl) (fun _ _ _ h => h) (.inl ⟨by rfl, fun W _ => by go_simp⟩) hH ?_
            change wpAnyH _ _ _ _ _ _ _ (Act.put _ (some 7) _) _
            simp only [Act.put, List.setIfInBounds_toArray, List.set_cons_zero, List.set_cons_succ]
            refine wpAnyH_done (by kernel_rfl) ?_ _
            go_wp2_with fail
            go_meet
            exact ⟨_, rfl, rfl, setRow_heap _ _ _ _ _ _ (heap_alloc_last _ _), hH, Nat.le_trans (Nat.le_refl _) b3.size⟩
          · refine stepAllocA AF (by rfl) (by rfl) ?_
            refine hK1.out _ _ (hH.alloc hH.size _) (fun hH => ?_)
            clear hK1
            change wpAnyH _ _ _ _ _ _ _ (Act.put _ (some 8) _) _
            simp only [Act.put, List.setIfInBounds_toArray, List.set_cons_zero, List.set_cons_succ]
            refine wpAnyH_ready (rs := [11]) (by kernel_rfl) (by simp) (AllReadyH.cons rfl (fun K1 hK1 => ?_) AllReadyH.nil)
            go_simp
            refine (HD.out _ (HKW.out _ hH)).mono ?_
            rintro e w3 ⟨rfl, b3⟩
            have R3 : Hid (w3.heap[W2.heap.size]? = some (.cells fz2 24 (0, 0))) := (b3.block _ (by simp)).trans (heap_alloc_last _ _)
            unfold Dc.valp
            refine hK1.out _ _ (below_next hH b3) (fun hH => ?_)
            clear hK1
            refine wpAnyH_take (i := 12) (v := .tuple #[.agg (fr2 dc dp), .int .i64 dl, .int .i64 de]) rfl (by kernel_rfl) (by kernel_rfl) (by kernel_rfl) (fun _ _ _ h => h) (yl_move (by rfl) _ (by rfl) _ (by rfl)) hH ?_
            change wpAnyH _ _ _ _ _ _ _ (Act.put _ (some 40) _) _
            simp only [Act.put, List.setIfInBounds_toArray, List.set_cons_zero, List.set_cons_succ]
            refine wpAnyH_take (i := 13) (v := .agg (fr2 dc dp)) rfl (by kernel_rfl) (by kernel_rfl) (by kernel_rfl) (fun _ _ _ h => h) (.inl ⟨by rfl, fun W _ => by go_simp⟩) hH ?_
            change wpAnyH _ _ _ _ _ _ _ (Act.put _ (some 53) _) _
            simp only [Act.put, List.setIfInBounds_toArray, List.set_cons_zero, List.set_cons_succ]
            refine wpAnyH_take (i := 14) (v := .int .i64 dl) rfl (by kernel_rfl) (by kernel_rfl) (by kernel_rfl) (fun _ _ _ h => h) (.inl ⟨by rfl, fun W _ => by go_simp⟩) hH ?_
            change wpAnyH _ _ _ _ _ _ _ (Act.put _ (some 54) _) _
            simp only [Act.put, List.setIfInBounds_toArray, List.set_cons_zero, List.set_cons_succ]
            refine wpAnyH_take (i := 15) (v := .int .i64 de) rfl (by kernel_rfl) (by kernel_rfl) (by kernel_rfl) (fun _ _ _ h => h) (.inl ⟨by rfl, fun W _ => by go_simp⟩) hH ?_
            change wpAnyH _ _ _ _ _ _ _ (Act.put _ (some 55) _) _
            simp only [Act.put, List.setIfInBounds_toArray, List.set_cons_zero, List.set_cons_succ]
            refine wpAnyH_ready (rs := [17]) (by kernel_rfl) (by simp) (AllReadyH.cons rfl (fun K1 hK1 => ?_) AllReadyH.nil)
            refine stepStoreA AF (by rfl) _ _ (by rfl) W2.heap.size (fr2 dc dp) rfl (fr2_one _ _) (by rfl) (by rfl) fz2 rfl 24 R3.out ?_
            refine hK1.out _ _ (below_setRow hH (Nat.le_refl _) _) (fun hH => ?_)
            clear hK1
            change wpAnyH _ _ _ _ _ _ _ (Act.put _ none _) _
            simp only [Act.put]
            refine wpAnyH_take (i := 18) (v := .int .i64 dl) rfl (by kernel_rfl) (by kernel_rfl) (by kernel_rfl) (fun _ _ _ h => h) (.inl ⟨by rfl, fun W _ => by go_simp⟩) hH ?_
            change wpAnyH _ _ _ _ _ _ _ (Act.put _ (some 9) _) _
            simp only [Act.put, List.setIfInBounds_toArray, List.set_cons_zero, List.set_cons_succ]
            refine wpAnyH_take (i := 19) (v := .int .i64 de) rfl (by kernel_rfl) (by kernel_rfl) (by kernel_rfl) (fun _ _ _ h => h) (.inl ⟨by rfl, fun W _ => by go_simp⟩) hH ?_
            change wpAnyH _ _ _ _ _ _ _ (Act.put _ (some 7) _) _
            simp only [Act.put, List.setIfInBounds_toArray, List.set_cons_zero, List.set_cons_succ]
            refine wpAnyH_done (by kernel_rfl) ?_ _
            go_wp2_with fail
            go_meet
            exact ⟨_, rfl, rfl, setRow_heap _ _ _ _ _ _ R3.out, hH, Nat.le_refl _⟩
        obtain ⟨g8, rfl, rfl, hg8, hbw, hg82⟩ := hcut
        have J3 := hide (J2.out.next hbw.out)
        have R3 := hide ((hbw.out.block _ (lt_heap R2.out)).trans R2.out)
        have y1 := (HS.out wc hbw.out).2.1
        have f1 := J3.out.f 1
        have O3 : OM wc (.slice (if cap = wh then some ⟨gv, ov, none⟩ else some ⟨gv, ov + wh, none⟩) (L - wh) (cap - wh)) (x.held.drop wh) := by
          have := HC.out wc hbw.out gv ov rfl
          by_cases hc : cap = wh
          · rw [if_pos hc, show L - wh = 0 by omega, show cap - wh = 0 by omega]
            exact this.2 hc
          · rw [if_neg hc]
            exact this.1
        obtain ⟨c4, f4, J4⟩ := J3.out.setV O3 (World.grownBy.refl _ _) (.inl (by by_cases hc : cap = wh <;> simp [hc, Value.ownBlock])) (by rw [List.length_drop]; omega)
        have J4 := hide J4
        have V4 : Hid (∀ k, (Value.slice (if cap = wh then some ⟨gv, ov, none⟩ else some ⟨gv, ov + wh, none⟩) (L - wh) (cap - wh)).ownBlock = some k → k ≠ g0) := by
          intro k hk
          refine G1.out.2.2 k ?_
          by_cases hc : cap = wh <;> simp [hc, Value.ownBlock] at hk ⊢ <;> exact hk
        have R4 : Hid ((wc.setCell ⟨b, 1, none⟩ (.slice (if cap = wh then some ⟨gv, ov, none⟩ else some ⟨gv, ov + wh, none⟩) (L - wh) (cap - wh))).heap[g0]? = some (.cells fz2 24 (0, 0))) := (Below.heap_setCell _ _ _ _ G1.out.2.1).trans R3.out
        have nb8 : g8 ≠ b := by
          have := J2.out.lt
          have := hg82.out
          omega
        have E4 : Hid ((wc.setCell ⟨b, 1, none⟩ (.slice (if cap = wh then some ⟨gv, ov, none⟩ else some ⟨gv, ov + wh, none⟩) (L - wh) (cap - wh))).heap[g8]? = some (.cells (fr2 dc dp) 24 (0, 0))) := (Below.heap_setCell _ _ _ _ nb8).trans hg8.out
        go_upto_region 12 with fail
        have G2 : Hid (B.heap.size ≤ g0 ∧ g0 ≠ b) := ⟨G1.out.1, G1.out.2.1⟩
        clear y1 f1 c4 f4 O3 HC HD HS HKW J2 J3 R3 hg8 G1
        generalize Value.slice (if cap = wh then some ⟨gv, ov, none⟩ else some ⟨gv, ov + wh, none⟩) (L - wh) (cap - wh) = v4 at *
        generalize wc.setCell ⟨b, 1, none⟩ v4 = W4 at *
        by_cases hd0 : de = 0
        · subst hd0
          rw [if_neg (by simp)] at HN
          have z3 := J4.out.c3
          simp only at z3
          have zf := J4.out.f 3
          have J5 := hide (J4.out.setT (IntKind.i64.wrap (x.taken + 1)))
          have R5 : Hid ((W4.setCell ⟨b, 3, none⟩ (.int .i64 (IntKind.i64.wrap (x.taken + 1)))).heap[g0]? = some (.cells fz2 24 (0, 0))) := (Below.heap_setCell _ _ _ _ G2.out.2).trans R4.out
          have E5 : Hid ((W4.setCell ⟨b, 3, none⟩ (.int .i64 (IntKind.i64.wrap (x.taken + 1)))).heap[g8]? = some (.cells (fr2 dc dp) 24 (0, 0))) := (Below.heap_setCell _ _ _ _ nb8).trans E4.out
          have J6 := hide (J5.out.putRow g0 G2.out.1 G2.out.2 V4.out GQ.out (fr2 dc dp))
          go_upto_region 15 with fail
          rw [show wrap64 (x.taken + 1) = IntKind.i64.wrap (x.taken + 1) by unfold wrap64; exact (IntKind.wrap_i64 _).symm]
          generalize IntKind.i64.wrap (x.taken + 1) = tk at *
          clear z3 zf
          generalize W4.setCell ⟨b, 3, none⟩ (.int .i64 tk) = W5 at *
          go_wp2_with (first | refine wpList_loadA AF rfl _ rfl g8 rfl (fr2 dc dp) rfl 24 E5.out ?_ | refine wpList_storeA AF rfl _ _ rfl g0 (fr2 dc dp) rfl (fr2_one _ _) rfl rfl fz2 rfl 24 R5.out ?_)
          exact bodyPost_ret (v := .tuple #[.agg (fr2 dc dp), .bool true, .int .i64 0]) (resA3 AF Tryd.results18 _ _ g0 24 (fr2 dc dp) rfl rfl (setRow_heap _ _ _ _ _ _ R5.out) _ (by rfl) _ (by rfl)) rfl ⟨by rw [← HN.out]; rfl, _, by rw [← HN.out, ← hmg]; exact J6.out⟩
        · rw [if_pos hd0] at HN
          have hd' : (de != 0) = true := by simp [hd0]
          have J6 := hide (J4.out.putRow g0 G2.out.1 G2.out.2 V4.out GQ.out fz2)
          go_wp2_with (first | refine wpList_buildA AF rfl rfl ?_ | refine wpList_storeA AF rfl _ _ rfl g0 fz2 rfl fz2_one rfl rfl fz2 rfl 24 R4.out ?_)
          exact bodyPost_ret (v := .tuple #[.agg fz2, .bool false, .int .i64 de]) (resA3 AF Tryd.results18 _ _ g0 24 fz2 rfl rfl (setRow_heap _ _ _ _ _ _ R4.out) _ (by rfl) _ (by rfl)) rfl ⟨by rw [← HN.out]; rfl, _, by rw [← HN.out, ← hmg]; exact J6.out⟩
    · rw [if_pos hf] at HN
      have hf' : (x.frontE != 0) = true := by simp [hf]
      have c2 := J2.out.c2
      have f2 := J2.out.f 2
      have J3 := hide (J2.out.setB x.frontE)
      obtain ⟨c3, f3, J4⟩ := J3.out.setV (OM.nil _) (World.grownBy.refl _ _) (.inr (.inl rfl)) (by simp)
      have J4 := hide J4
      have R4 : Hid (((W2.setCell ⟨b, 2, none⟩ (.int .i64 x.frontE)).setCell ⟨b, 1, none⟩ (.slice none 0 0)).heap[g0]? = some (.cells fz2 24 (0, 0))) := (Below.heap_setCell _ _ _ _ G1.out.2.1).trans ((Below.heap_setCell _ _ _ _ G1.out.2.1).trans R2.out)
      have J5 := hide (J4.out.putRow g0 G1.out.1 G1.out.2.1 (fun k hk => by cases hk) GQ.out fz2)
      generalize x.frontE = fe at *
      go_upto_region 7 with fail
      clear c2 f2 c3 f3 J3
      generalize (W2.setCell ⟨b, 2, none⟩ (.int .i64 fe)).setCell ⟨b, 1, none⟩ (.slice none 0 0) = W4 at *
      go_wp2_with (first | refine wpList_buildA AF rfl rfl ?_ | refine wpList_storeA AF rfl _ _ rfl g0 fz2 rfl fz2_one rfl rfl fz2 rfl 24 R4.out ?_)
      exact bodyPost_ret (v := .tuple #[.agg fz2, .bool false, .int .i64 fe]) (resA3 AF Tryd.results18 _ _ g0 24 fz2 rfl rfl (setRow_heap _ _ _ _ _ _ R4.out) _ (by rfl) _ (by rfl)) rfl ⟨by rw [← HN.out]; rfl, _, by rw [← HN.out]; exact J5.out⟩
  · rw [if_pos hb] at HN
    have hb' : (x.broken != 0) = true := by simp [hb]
    have J3 := hide (J1.out.putRow g0 G1.out.1 G1.out.2.1 G1.out.2.2 GQ.out fz2)
    go_wp2_with (first | (go_at_call 20; refine HB.out.mono ?_; rintro e w2 ⟨rfl, hw⟩; subst w2) | refine wpList_buildA AF rfl rfl ?_ | refine wpList_storeA AF rfl _ _ rfl g0 fz2 rfl fz2_one rfl rfl fz2 rfl 24 R1.out ?_)
    exact bodyPost_ret (v := .tuple #[.agg fz2, .bool false, .int .i64 x.broken]) (resA3 AF Tryd.results18 _ _ g0 24 fz2 rfl rfl (setRow_heap _ _ _ _ _ _ R1.out) _ (by rfl) _ (by rfl)) rfl ⟨by rw [← HN.out]; rfl, _, by rw [← HN.out]; exact J3.out⟩
end
end Go.Proofs.YtjcfojedahgfpaaDoor
