/- Journals: what the law does: opened anew, and what is refused. -/
import Derived.Test.YtgncphoaknffnaaGreatDoorP20
namespace Go.Proofs.YtgncphoaknffnaaGreatDoor
open Go.RowKit
open Go.Deep
open Go.Lib
set_option linter.unusedVariables false
theorem txt_dl (L : List ByteArray) : (dl L).map txt = L := by
  unfold dl
  rw [List.map_map]
  conv => rhs; rw [← List.map_id L]
  apply List.map_congr_left
  intro s _
  exact txtJ_of s
theorem AP.fin {K : Nat → Prop} {B w W0 w3 : World} {gj gj' gd c : Nat} {J : Jr} {x x' : StD} {T T3 : Nat → Prop} {v v3 u' : Value} {ep' torn' : Nat} {L' : List ByteArray} (h0 : JB K B W0 gj gd J x T v) (hj : ∀ g, w.heap.size ≤ g → g < w.heap.size + 3 → ¬ js T gj v g) (hb : B.heap.size ≤ w.heap.size + 1 + 1) (hlt : w.heap.size + 1 + 1 < W0.heap.size) (j3 : JB (js T gj v) W0 w3 gj' gd ⟨logN, ep', L', torn', false⟩ x' T3 v3) (m3 : MU w3 T3 gj' v3 u' L') (hu : u'.ownBlock ≠ some (w.heap.size + 1 + 1)) (d3 : Ds x' ep' L' (c + 1)) (b : Value) (hbv : b = .int .u64 (ep' : Int)) : AP K B gd c (.returned (.tuple #[.pointer (some ⟨gj', 0, none⟩), .agg #[u', b], .bool true])) (st2 w3 (w.heap.size + 1 + 1) u' b) := by
  subst hbv
  have hn : ¬ js T3 gj' v3 (w.heap.size + 1 + 1) := fun c => by
    have : js T gj v (w.heap.size + 1 + 1) ∨ W0.heap.size ≤ w.heap.size + 1 + 1 := by
      rcases c with c | c | c
      · exact j3.far _ c
      · exact c ▸ j3.jfar
      · exact (j3.vfar _ c).1
    rcases this with c | c
    · exact hj _ (by omega) (by omega) c
    · omega
  exact ⟨gj', u', ep', L', torn', x', T3, v3, rfl, (h0.back j3).write (st2_fr _ _ _ _) (.inr hb) hn, m3.write (st2_fr _ _ _ _) hu, d3⟩
section
set_option maxRecDepth 10000
set_option maxHeartbeats 2000000
variable {K : Nat → Prop} {B w : World} {gj gd : Nat} {x : StD} {T : Nat → Prop} {v : Value}
theorem act_open {ep torn c : Nat} {L : List ByteArray} {u : Value} {kind n : Int} {s : ByteArray} (h : JB K B w gj gd ⟨logN, ep, L, torn, false⟩ x T v) (hu : MU w T gj v u L) (hd : Ds x ep L c) (hc : c < 60) (hK : KB K B) (hs : s.size ≤ 70000) (hk1 : wrap64 (kind.tmod 6 + 6) = kind.tmod 6 + 6) (hk : (kind.tmod 6 + 6).tmod 6 = 5) : Calls Tryz.prog 8 #[.pointer (some ⟨gj, 0, none⟩), .pointer (some ⟨gd, 0, none⟩), .agg #[u, .int .u64 (ep : Int)], .agg #[.int .i64 kind, .int .i64 n, .string s]] w fun e w' => AP K B gd c e w' := by
  obtain ⟨ao, cu, rfl⟩ := hu.lx.form
  have b0 := acW_bel w (.slice ao L.length cu) ep kind n s
  have AC := hide (acW_ac w (.slice ao L.length cu) ep kind n s)
  have H0 := hide (h.next b0)
  have H1 := hide (h.next b0).here
  have HJ := hide (js_not h)
  have HM := hide (hu.next b0)
  have HUn : Hid (∀ g, w.heap.size ≤ g → Value.ownBlock (.slice ao L.length cu) ≠ some g) := fun g hg e => by
    have := (hu.far g e).1
    omega
  have HBs : Hid (B.heap.size ≤ w.heap.size + 1 + 1) := by
    have := h.bel.size
    show _ ≤ _
    omega
  have KB1 : Hid (KB (js T gj v) (acW w (.slice ao L.length cu) ep kind n s)) := by
    have kg := hK.at_ (h.next b0).bel
    refine ⟨kg, fun c => ?_⟩
    have up : K 0 ∨ B.heap.size ≤ 0 := by
      rcases c with c | c | c
      · exact h.far _ c
      · exact c ▸ h.jfar
      · exact (h.vfar _ c).1
    rcases up with c | c
    · exact hK.2 c
    · have := hK.1.lt
      omega
  have fl := hd.fl
  have HO : Hid (∀ K' B' W T', KB K' B' → DBk K' B' W gd x T' → Calls Tryz.prog 6 #[.pointer (some ⟨gd, 0, none⟩), .string logN] W fun e w' => ∃ gj v', e = .returned (.tuple #[.pointer (some ⟨gj, 0, none⟩), .int .i64 0]) ∧ JB K' B' w' gj gd ⟨logN, ep, L, 0, false⟩ x T' v') := fun K' B' W T' hk d => by
    have := open_again d logN hk okLog hd.fnd hd.fndA (ep := ep) (by have := hd.epo; unfold U64; omega) (dl L) hd.at_ (fun t ht => by
      obtain ⟨q, hq, rfl⟩ := List.mem_map.1 ht
      have := hd.short q hq
      simpa using this) (by omega)
    rw [txt_dl] at this
    exact this
  unfold logN at HO
  have DS := hide hd.more
  have HT := hide fun K' B' W T' gj' v' (j : JB K' B' W gj' gd ⟨logN, ep, L, 0, false⟩ x T' v') => tornJ_any j
  clear fl
  unfold acW at *
  clear h hu hd hc b0 hK
  go_enter Tryz.func8, Tryz.ntmps8
  go_upto_region 21 with fail
  generalize ((w.alloc (.cells #[.slice ao L.length cu, .int .u64 (ep : Int)] 33)).alloc (.cells #[.int .i64 kind, .int .i64 n, .string s] 35)).alloc (.cells #[.slice none 0 0, .int .u64 0] 33) = W0 at *
  go_upto_region 22 with (go_at_call 6; refine (HO.out _ _ _ _ KB1.out H1.out.db).mono ?_; rintro e w3 ⟨gk, v3, rfl, j3⟩; have J3 := hide j3; have A3 := hide (AC.out.fr j3.bel HJ.out); clear j3)
  refine wp_region_held_drew (S := fun W => W.cell? ⟨w.heap.size, 0, none⟩ = some (.slice ao L.length cu) ∧ W.cell? ⟨w.heap.size, 1, none⟩ = some (.int .u64 (ep : Int))) (by kernel_rfl) ⟨A3.out.m0, A3.out.m1⟩ (fun hH => ?_)
  refine wpAnyH_take (i := 0) (v := .pointer (some ⟨gk, 0, none⟩)) rfl (by kernel_rfl) (by kernel_rfl) (by kernel_rfl) (fun _ _ _ h => h) (yl_move (by rfl) _ (by rfl) _ (by rfl)) hH ?_
  change wpAnyH _ _ _ _ _ _ _ (Act.put _ (some 137) _) _
  simp only [Act.put, List.setIfInBounds_toArray, List.set_cons_zero, List.set_cons_succ]
  refine wpAnyH_take (i := 1) (v := .agg #[.slice ao L.length cu, .int .u64 (ep : Int)]) rfl (by kernel_rfl) (by kernel_rfl) (by kernel_rfl) (fun _ _ _ h => h) (.inl ⟨by rfl, fun W hS => by have c4 := hS.1; have c5 := hS.2; go_simp⟩) hH ?_
  change wpAnyH _ _ _ _ _ _ _ (Act.put _ (some 138) _) _
  simp only [Act.put, List.setIfInBounds_toArray, List.set_cons_zero, List.set_cons_succ]
  refine wpAnyH_take (i := 2) (v := .int .i64 0) rfl (by kernel_rfl) (by kernel_rfl) (by kernel_rfl) (fun _ _ _ h => h) (yl_move (by rfl) _ (by rfl) _ (by rfl)) hH ?_
  change wpAnyH _ _ _ _ _ _ _ (Act.put _ (some 139) _) _
  simp only [Act.put, List.setIfInBounds_toArray, List.set_cons_zero, List.set_cons_succ]
  refine wpAnyH_take (i := 3) (v := .bool true) rfl (by kernel_rfl) (by kernel_rfl) (by kernel_rfl) (fun _ _ _ h => h) (.inl ⟨by rfl, fun W _ => by go_simp⟩) hH ?_
  change wpAnyH _ _ _ _ _ _ _ (Act.put _ (some 140) _) _
  simp only [Act.put, List.setIfInBounds_toArray, List.set_cons_zero, List.set_cons_succ]
  refine wpAnyH_take (i := 4) (v := .bool true) rfl (by kernel_rfl) (by kernel_rfl) (by kernel_rfl) (fun _ _ _ h => h) (yl_move (by rfl) _ (by rfl) _ (by rfl)) hH ?_
  change wpAnyH _ _ _ _ _ _ _ (Act.put _ (some 141) _) _
  simp only [Act.put, List.setIfInBounds_toArray, List.set_cons_zero, List.set_cons_succ]
  refine wpAnyH_take (i := 5) (v := .pointer (some ⟨gk, 0, none⟩)) rfl (by kernel_rfl) (by kernel_rfl) (by kernel_rfl) (fun _ _ _ h => h) (yl_move (by rfl) _ (by rfl) _ (by rfl)) hH ?_
  change wpAnyH _ _ _ _ _ _ _ (Act.put _ (some 142) _) _
  simp only [Act.put, List.setIfInBounds_toArray, List.set_cons_zero, List.set_cons_succ]
  refine wpAnyH_take (i := 6) (v := .bool true) rfl (by kernel_rfl) (by kernel_rfl) (by kernel_rfl) (fun _ _ _ h => h) (.inl ⟨by rfl, fun W _ => by go_simp⟩) hH ?_
  change wpAnyH _ _ _ _ _ _ _ (Act.put _ (some 143) _) _
  simp only [Act.put, List.setIfInBounds_toArray, List.set_cons_zero, List.set_cons_succ]
  refine wpAnyH_take (i := 7) (v := .bool true) rfl (by kernel_rfl) (by kernel_rfl) (by kernel_rfl) (fun _ _ _ h => h) (.inl ⟨by rfl, fun W _ => by go_simp⟩) hH ?_
  change wpAnyH _ _ _ _ _ _ _ (Act.put _ (some 144) _) _
  simp only [Act.put, List.setIfInBounds_toArray, List.set_cons_zero, List.set_cons_succ]
  refine wpAnyH_take (i := 8) (v := .bool true) rfl (by kernel_rfl) (by kernel_rfl) (by kernel_rfl) (fun _ _ _ h => h) (yl_move (by rfl) _ (by rfl) _ (by rfl)) hH ?_
  change wpAnyH _ _ _ _ _ _ _ (Act.put _ (some 145) _) _
  simp only [Act.put, List.setIfInBounds_toArray, List.set_cons_zero, List.set_cons_succ]
  refine wpAnyH_take (i := 9) (v := .pointer (some ⟨gk, 0, none⟩)) rfl (by kernel_rfl) (by kernel_rfl) (by kernel_rfl) (fun _ _ _ h => h) (yl_move (by rfl) _ (by rfl) _ (by rfl)) hH ?_
  change wpAnyH _ _ _ _ _ _ _ (Act.put _ (some 146) _) _
  simp only [Act.put, List.setIfInBounds_toArray, List.set_cons_zero, List.set_cons_succ]
  refine wpAnyH_ready (rs := [10]) (by kernel_rfl) (by simp) (AllReadyH.cons rfl (fun K1 hK1 => ?_) AllReadyH.nil)
  go_simp
  refine (HT.out _ _ _ _ _ _ (J3.out.next (Below.refl _ _).drew)).mono ?_
  rintro e w4 ⟨rfl, hw⟩
  subst w4
  refine hK1.out _ _ ⟨A3.out.m0, A3.out.m1⟩ (fun hH => ?_)
  clear hK1
  refine wpAnyH_take (i := 11) (v := .bool true) rfl (by kernel_rfl) (by kernel_rfl) (by kernel_rfl) (fun _ _ _ h => h) (.inl ⟨by rfl, fun W _ => by go_simp⟩) hH ?_
  change wpAnyH _ _ _ _ _ _ _ (Act.put _ (some 148) _) _
  simp only [Act.put, List.setIfInBounds_toArray, List.set_cons_zero, List.set_cons_succ]
  refine wpAnyH_take (i := 12) (v := .bool true) rfl (by kernel_rfl) (by kernel_rfl) (by kernel_rfl) (fun _ _ _ h => h) (.inl ⟨by rfl, fun W _ => by go_simp⟩) hH ?_
  change wpAnyH _ _ _ _ _ _ _ (Act.put _ (some 149) _) _
  simp only [Act.put, List.setIfInBounds_toArray, List.set_cons_zero, List.set_cons_succ]
  refine wpAnyH_take (i := 13) (v := .pointer (some ⟨gk, 0, none⟩)) rfl (by kernel_rfl) (by kernel_rfl) (by kernel_rfl) (fun _ _ _ h => h) (.inl ⟨by rfl, fun W _ => by go_simp⟩) hH ?_
  change wpAnyH _ _ _ _ _ _ _ (Act.put _ (some 8) _) _
  simp only [Act.put, List.setIfInBounds_toArray, List.set_cons_zero, List.set_cons_succ]
  have A4 := hide (A3.out.next (Below.refl w3.heap.size w3).drew)
  have J4 := hide (J3.out.next (Below.refl w3.heap.size w3).drew)
  clear A3 J3
  generalize w3.drew = W4 at *
  have q0 : W4.cell? ⟨w.heap.size + 1 + 1, 0, none⟩ = some (.slice none 0 0) := by rw [cell_of_row _ _ 0 _ _ _ A4.out.r]; rfl
  have q1 : W4.cell? ⟨w.heap.size + 1 + 1, 1, none⟩ = some (.int .u64 0) := by rw [cell_of_row _ _ 1 _ _ _ A4.out.r]; rfl
  have f0 := frozen_of_row _ _ 0 _ _ A4.out.r
  have f1 := frozen_of_row _ _ 1 _ _ A4.out.r
  refine wpAnyH_ready (rs := [14]) (by kernel_rfl) (by simp) (AllReadyH.cons rfl (fun K1 hK1 => ?_) AllReadyH.nil)
  go_simp
  have R5 := hide (st2_row (a := .slice ao L.length cu) (b := .int .u64 (ep : Int)) A4.out.r)
  have M5 := hide (((st2_fr W4 (w.heap.size + 1 + 1) (.slice ao L.length cu) (.int .u64 (ep : Int))).block _ (lt_heap A4.out.m) (by omega)).trans A4.out.m)
  refine hK1.out _ (st2 W4 (w.heap.size + 1 + 1) (.slice ao L.length cu) (.int .u64 (ep : Int))) ⟨by rw [cell_of_row _ _ 0 _ _ _ M5.out]; rfl, by rw [cell_of_row _ _ 1 _ _ _ M5.out]; rfl⟩ (fun hH => ?_)
  clear hK1 q0 q1 f0 f1
  refine wpAnyH_take (i := 15) (v := .bool true) rfl (by kernel_rfl) (by kernel_rfl) (by kernel_rfl) (fun _ _ _ h => h) (.inl ⟨by rfl, fun W _ => by go_simp⟩) hH ?_
  change wpAnyH _ _ _ _ _ _ _ (Act.put _ (some 10) _) _
  simp only [Act.put, List.setIfInBounds_toArray, List.set_cons_zero, List.set_cons_succ]
  refine wpAnyH_done (by kernel_rfl) ?_ _
  have FIN := hide (AP.fin (w := w) H0.out HJ.out HBs.out (lt_heap AC.out.r) J4.out (HM.out.over J4.out) (HUn.out _ (by omega)) DS.out _ rfl)
  clear M5 H0 H1 HM AC
  go_wp2
  (try simp only [Exit.inBlock, Exit.then])
  refine bodyPost_ret (resM AMd rfl _ _ (w.heap.size + 1 + 1) _ _ rfl rfl R5.out _ rfl _ rfl) rfl ?_
  exact FIN.out
theorem act_long0 {ep torn c : Nat} {L : List ByteArray} {u : Value} {kind n : Int} {s : ByteArray} (h : JB K B w gj gd ⟨logN, ep, L, torn, false⟩ x T v) (hu : MU w T gj v u L) (hd : Ds x ep L c) (hc : c < 60) (hK : KB K B) (hs : s.size ≤ 70000) (hk1 : wrap64 (kind.tmod 6 + 6) = kind.tmod 6 + 6) (hk : (kind.tmod 6 + 6).tmod 6 = 0) (hl : 65536 < s.size) : Calls Tryz.prog 8 #[.pointer (some ⟨gj, 0, none⟩), .pointer (some ⟨gd, 0, none⟩), .agg #[u, .int .u64 (ep : Int)], .agg #[.int .i64 kind, .int .i64 n, .string s]] w fun e w' => AP K B gd c e w' := by
  obtain ⟨ao, cu, rfl⟩ := hu.lx.form
  have b0 := acW_bel w (.slice ao L.length cu) ep kind n s
  have AC := hide (acW_ac w (.slice ao L.length cu) ep kind n s)
  have H0 := hide (h.next b0)
  have H1 := hide (h.next b0).here
  have HJ := hide (js_not h)
  have HM := hide (hu.next b0)
  have HUn : Hid (∀ g, w.heap.size ≤ g → Value.ownBlock (.slice ao L.length cu) ≠ some g) := fun g hg e => by
    have := (hu.far g e).1
    omega
  have HBs : Hid (B.heap.size ≤ w.heap.size + 1 + 1) := by
    have := h.bel.size
    show _ ≤ _
    omega
  have KB1 : Hid (KB (js T gj v) (acW w (.slice ao L.length cu) ep kind n s)) := by
    have kg := hK.at_ (h.next b0).bel
    refine ⟨kg, fun c => ?_⟩
    have up : K 0 ∨ B.heap.size ≤ 0 := by
      rcases c with c | c | c
      · exact h.far _ c
      · exact c ▸ h.jfar
      · exact (h.vfar _ c).1
    rcases up with c | c
    · exact hK.2 c
    · have := hK.1.lt
      omega
  have HA := hide fun K' B' W T' (j : JB K' B' W gj gd ⟨logN, ep, L, torn, false⟩ x T' v) => add_long j s rfl hl (by unfold maxLen; omega) (by have := hd.many; show L.length ≤ _; omega)
  have DS := hide hd.more
  have a2 := AC.out.a2
  have l1 : (65536 : Int) < s.size := by omega
  clear hl
  unfold acW at *
  clear h hu hd hc b0 hK
  go_enter Tryz.func8, Tryz.ntmps8
  go_upto_region 23 with fail
  generalize ((w.alloc (.cells #[.slice ao L.length cu, .int .u64 (ep : Int)] 33)).alloc (.cells #[.int .i64 kind, .int .i64 n, .string s] 35)).alloc (.cells #[.slice none 0 0, .int .u64 0] 33) = W0 at *
  go_upto_region 25 with (go_at_call 18; refine (HA.out _ _ _ _ H1.out).mono ?_; rintro e w3 ⟨rfl, j3⟩; have J3 := hide j3; have A3 := hide (AC.out.fr j3.bel HJ.out); have a2 := (AC.out.fr j3.bel HJ.out).a2; clear j3)
  refine wp_region_held_drew (S := fun W => W.cell? ⟨w.heap.size, 0, none⟩ = some (.slice ao L.length cu) ∧ W.cell? ⟨w.heap.size, 1, none⟩ = some (.int .u64 (ep : Int))) (by kernel_rfl) ⟨A3.out.m0, A3.out.m1⟩ (fun hH => ?_)
  refine wpAnyH_take (i := 0) (v := .pointer (some ⟨gj, 0, none⟩)) rfl (by kernel_rfl) (by kernel_rfl) (by kernel_rfl) (fun _ _ _ h => h) (yl_move (by rfl) _ (by rfl) _ (by rfl)) hH ?_
  change wpAnyH _ _ _ _ _ _ _ (Act.put _ (some 158) _) _
  simp only [Act.put, List.setIfInBounds_toArray, List.set_cons_zero, List.set_cons_succ]
  refine wpAnyH_take (i := 1) (v := .agg #[.slice ao L.length cu, .int .u64 (ep : Int)]) rfl (by kernel_rfl) (by kernel_rfl) (by kernel_rfl) (fun _ _ _ h => h) (.inl ⟨by rfl, fun W hS => by have c4 := hS.1; have c5 := hS.2; go_simp⟩) hH ?_
  change wpAnyH _ _ _ _ _ _ _ (Act.put _ (some 159) _) _
  simp only [Act.put, List.setIfInBounds_toArray, List.set_cons_zero, List.set_cons_succ]
  refine wpAnyH_take (i := 2) (v := .int .i64 121) rfl (by kernel_rfl) (by kernel_rfl) (by kernel_rfl) (fun _ _ _ h => h) (yl_move (by rfl) _ (by rfl) _ (by rfl)) hH ?_
  change wpAnyH _ _ _ _ _ _ _ (Act.put _ (some 160) _) _
  simp only [Act.put, List.setIfInBounds_toArray, List.set_cons_zero, List.set_cons_succ]
  refine wpAnyH_take (i := 3) (v := .bool true) rfl (by kernel_rfl) (by kernel_rfl) (by kernel_rfl) (fun _ _ _ h => h) (.inl ⟨by rfl, fun W _ => by go_simp⟩) hH ?_
  change wpAnyH _ _ _ _ _ _ _ (Act.put _ (some 161) _) _
  simp only [Act.put, List.setIfInBounds_toArray, List.set_cons_zero, List.set_cons_succ]
  refine wpAnyH_take (i := 4) (v := .pointer (some ⟨gj, 0, none⟩)) rfl (by kernel_rfl) (by kernel_rfl) (by kernel_rfl) (fun _ _ _ h => h) (.inl ⟨by rfl, fun W _ => by go_simp⟩) hH ?_
  change wpAnyH _ _ _ _ _ _ _ (Act.put _ (some 8) _) _
  simp only [Act.put, List.setIfInBounds_toArray, List.set_cons_zero, List.set_cons_succ]
  have A4 := hide (A3.out.next (Below.refl w3.heap.size w3).drew)
  have J4 := hide (J3.out.next (Below.refl w3.heap.size w3).drew)
  clear A3 J3
  generalize w3.drew = W4 at *
  have q0 : W4.cell? ⟨w.heap.size + 1 + 1, 0, none⟩ = some (.slice none 0 0) := by rw [cell_of_row _ _ 0 _ _ _ A4.out.r]; rfl
  have q1 : W4.cell? ⟨w.heap.size + 1 + 1, 1, none⟩ = some (.int .u64 0) := by rw [cell_of_row _ _ 1 _ _ _ A4.out.r]; rfl
  have f0 := frozen_of_row _ _ 0 _ _ A4.out.r
  have f1 := frozen_of_row _ _ 1 _ _ A4.out.r
  refine wpAnyH_ready (rs := [5]) (by kernel_rfl) (by simp) (AllReadyH.cons rfl (fun K1 hK1 => ?_) AllReadyH.nil)
  go_simp
  have R5 := hide (st2_row (a := .slice ao L.length cu) (b := .int .u64 (ep : Int)) A4.out.r)
  have M5 := hide (((st2_fr W4 (w.heap.size + 1 + 1) (.slice ao L.length cu) (.int .u64 (ep : Int))).block _ (lt_heap A4.out.m) (by omega)).trans A4.out.m)
  refine hK1.out _ (st2 W4 (w.heap.size + 1 + 1) (.slice ao L.length cu) (.int .u64 (ep : Int))) ⟨by rw [cell_of_row _ _ 0 _ _ _ M5.out]; rfl, by rw [cell_of_row _ _ 1 _ _ _ M5.out]; rfl⟩ (fun hH => ?_)
  clear hK1 q0 q1 f0 f1
  refine wpAnyH_take (i := 6) (v := .bool true) rfl (by kernel_rfl) (by kernel_rfl) (by kernel_rfl) (fun _ _ _ h => h) (.inl ⟨by rfl, fun W _ => by go_simp⟩) hH ?_
  change wpAnyH _ _ _ _ _ _ _ (Act.put _ (some 10) _) _
  simp only [Act.put, List.setIfInBounds_toArray, List.set_cons_zero, List.set_cons_succ]
  refine wpAnyH_done (by kernel_rfl) ?_ _
  have FIN := hide (AP.fin (w := w) H0.out HJ.out HBs.out (lt_heap AC.out.r) J4.out (HM.out.over J4.out) (HUn.out _ (by omega)) DS.out _ rfl)
  clear M5 H0 H1 HM AC
  go_wp2
  (try simp only [Exit.inBlock, Exit.then])
  refine bodyPost_ret (resM AMd rfl _ _ (w.heap.size + 1 + 1) _ _ rfl rfl R5.out _ rfl _ rfl) rfl ?_
  exact FIN.out
theorem act_long1 {ep torn c : Nat} {L : List ByteArray} {u : Value} {kind n : Int} {s : ByteArray} (h : JB K B w gj gd ⟨logN, ep, L, torn, false⟩ x T v) (hu : MU w T gj v u L) (hd : Ds x ep L c) (hc : c < 60) (hK : KB K B) (hs : s.size ≤ 70000) (hk1 : wrap64 (kind.tmod 6 + 6) = kind.tmod 6 + 6) (hk : (kind.tmod 6 + 6).tmod 6 = 1) (hl : 65536 < s.size) : Calls Tryz.prog 8 #[.pointer (some ⟨gj, 0, none⟩), .pointer (some ⟨gd, 0, none⟩), .agg #[u, .int .u64 (ep : Int)], .agg #[.int .i64 kind, .int .i64 n, .string s]] w fun e w' => AP K B gd c e w' := by
  obtain ⟨ao, cu, rfl⟩ := hu.lx.form
  have b0 := acW_bel w (.slice ao L.length cu) ep kind n s
  have AC := hide (acW_ac w (.slice ao L.length cu) ep kind n s)
  have H0 := hide (h.next b0)
  have H1 := hide (h.next b0).here
  have HJ := hide (js_not h)
  have HM := hide (hu.next b0)
  have HUn : Hid (∀ g, w.heap.size ≤ g → Value.ownBlock (.slice ao L.length cu) ≠ some g) := fun g hg e => by
    have := (hu.far g e).1
    omega
  have HBs : Hid (B.heap.size ≤ w.heap.size + 1 + 1) := by
    have := h.bel.size
    show _ ≤ _
    omega
  have KB1 : Hid (KB (js T gj v) (acW w (.slice ao L.length cu) ep kind n s)) := by
    have kg := hK.at_ (h.next b0).bel
    refine ⟨kg, fun c => ?_⟩
    have up : K 0 ∨ B.heap.size ≤ 0 := by
      rcases c with c | c | c
      · exact h.far _ c
      · exact c ▸ h.jfar
      · exact (h.vfar _ c).1
    rcases up with c | c
    · exact hK.2 c
    · have := hK.1.lt
      omega
  have HA := hide fun K' B' W T' (j : JB K' B' W gj gd ⟨logN, ep, L, torn, false⟩ x T' v) => add_long j s rfl hl (by unfold maxLen; omega) (by have := hd.many; show L.length ≤ _; omega)
  have DS := hide hd.more
  have a2 := AC.out.a2
  have l1 : (65536 : Int) < s.size := by omega
  clear hl
  unfold acW at *
  clear h hu hd hc b0 hK
  go_enter Tryz.func8, Tryz.ntmps8
  go_upto_region 23 with fail
  generalize ((w.alloc (.cells #[.slice ao L.length cu, .int .u64 (ep : Int)] 33)).alloc (.cells #[.int .i64 kind, .int .i64 n, .string s] 35)).alloc (.cells #[.slice none 0 0, .int .u64 0] 33) = W0 at *
  go_upto_region 25 with (go_at_call 18; refine (HA.out _ _ _ _ H1.out).mono ?_; rintro e w3 ⟨rfl, j3⟩; have J3 := hide j3; have A3 := hide (AC.out.fr j3.bel HJ.out); have a2 := (AC.out.fr j3.bel HJ.out).a2; clear j3)
  refine wp_region_held_drew (S := fun W => W.cell? ⟨w.heap.size, 0, none⟩ = some (.slice ao L.length cu) ∧ W.cell? ⟨w.heap.size, 1, none⟩ = some (.int .u64 (ep : Int))) (by kernel_rfl) ⟨A3.out.m0, A3.out.m1⟩ (fun hH => ?_)
  refine wpAnyH_take (i := 0) (v := .pointer (some ⟨gj, 0, none⟩)) rfl (by kernel_rfl) (by kernel_rfl) (by kernel_rfl) (fun _ _ _ h => h) (yl_move (by rfl) _ (by rfl) _ (by rfl)) hH ?_
  change wpAnyH _ _ _ _ _ _ _ (Act.put _ (some 158) _) _
  simp only [Act.put, List.setIfInBounds_toArray, List.set_cons_zero, List.set_cons_succ]
  refine wpAnyH_take (i := 1) (v := .agg #[.slice ao L.length cu, .int .u64 (ep : Int)]) rfl (by kernel_rfl) (by kernel_rfl) (by kernel_rfl) (fun _ _ _ h => h) (.inl ⟨by rfl, fun W hS => by have c4 := hS.1; have c5 := hS.2; go_simp⟩) hH ?_
  change wpAnyH _ _ _ _ _ _ _ (Act.put _ (some 159) _) _
  simp only [Act.put, List.setIfInBounds_toArray, List.set_cons_zero, List.set_cons_succ]
  refine wpAnyH_take (i := 2) (v := .int .i64 121) rfl (by kernel_rfl) (by kernel_rfl) (by kernel_rfl) (fun _ _ _ h => h) (yl_move (by rfl) _ (by rfl) _ (by rfl)) hH ?_
  change wpAnyH _ _ _ _ _ _ _ (Act.put _ (some 160) _) _
  simp only [Act.put, List.setIfInBounds_toArray, List.set_cons_zero, List.set_cons_succ]
  refine wpAnyH_take (i := 3) (v := .bool true) rfl (by kernel_rfl) (by kernel_rfl) (by kernel_rfl) (fun _ _ _ h => h) (.inl ⟨by rfl, fun W _ => by go_simp⟩) hH ?_
  change wpAnyH _ _ _ _ _ _ _ (Act.put _ (some 161) _) _
  simp only [Act.put, List.setIfInBounds_toArray, List.set_cons_zero, List.set_cons_succ]
  refine wpAnyH_take (i := 4) (v := .pointer (some ⟨gj, 0, none⟩)) rfl (by kernel_rfl) (by kernel_rfl) (by kernel_rfl) (fun _ _ _ h => h) (.inl ⟨by rfl, fun W _ => by go_simp⟩) hH ?_
  change wpAnyH _ _ _ _ _ _ _ (Act.put _ (some 8) _) _
  simp only [Act.put, List.setIfInBounds_toArray, List.set_cons_zero, List.set_cons_succ]
  have A4 := hide (A3.out.next (Below.refl w3.heap.size w3).drew)
  have J4 := hide (J3.out.next (Below.refl w3.heap.size w3).drew)
  clear A3 J3
  generalize w3.drew = W4 at *
  have q0 : W4.cell? ⟨w.heap.size + 1 + 1, 0, none⟩ = some (.slice none 0 0) := by rw [cell_of_row _ _ 0 _ _ _ A4.out.r]; rfl
  have q1 : W4.cell? ⟨w.heap.size + 1 + 1, 1, none⟩ = some (.int .u64 0) := by rw [cell_of_row _ _ 1 _ _ _ A4.out.r]; rfl
  have f0 := frozen_of_row _ _ 0 _ _ A4.out.r
  have f1 := frozen_of_row _ _ 1 _ _ A4.out.r
  refine wpAnyH_ready (rs := [5]) (by kernel_rfl) (by simp) (AllReadyH.cons rfl (fun K1 hK1 => ?_) AllReadyH.nil)
  go_simp
  have R5 := hide (st2_row (a := .slice ao L.length cu) (b := .int .u64 (ep : Int)) A4.out.r)
  have M5 := hide (((st2_fr W4 (w.heap.size + 1 + 1) (.slice ao L.length cu) (.int .u64 (ep : Int))).block _ (lt_heap A4.out.m) (by omega)).trans A4.out.m)
  refine hK1.out _ (st2 W4 (w.heap.size + 1 + 1) (.slice ao L.length cu) (.int .u64 (ep : Int))) ⟨by rw [cell_of_row _ _ 0 _ _ _ M5.out]; rfl, by rw [cell_of_row _ _ 1 _ _ _ M5.out]; rfl⟩ (fun hH => ?_)
  clear hK1 q0 q1 f0 f1
  refine wpAnyH_take (i := 6) (v := .bool true) rfl (by kernel_rfl) (by kernel_rfl) (by kernel_rfl) (fun _ _ _ h => h) (.inl ⟨by rfl, fun W _ => by go_simp⟩) hH ?_
  change wpAnyH _ _ _ _ _ _ _ (Act.put _ (some 10) _) _
  simp only [Act.put, List.setIfInBounds_toArray, List.set_cons_zero, List.set_cons_succ]
  refine wpAnyH_done (by kernel_rfl) ?_ _
  have FIN := hide (AP.fin (w := w) H0.out HJ.out HBs.out (lt_heap AC.out.r) J4.out (HM.out.over J4.out) (HUn.out _ (by omega)) DS.out _ rfl)
  clear M5 H0 H1 HM AC
  go_wp2
  (try simp only [Exit.inBlock, Exit.then])
  refine bodyPost_ret (resM AMd rfl _ _ (w.heap.size + 1 + 1) _ _ rfl rfl R5.out _ rfl _ rfl) rfl ?_
  exact FIN.out
theorem act_cutneg {ep torn c : Nat} {L : List ByteArray} {u : Value} {kind n : Int} {s : ByteArray} (h : JB K B w gj gd ⟨logN, ep, L, torn, false⟩ x T v) (hu : MU w T gj v u L) (hd : Ds x ep L c) (hc : c < 60) (hK : KB K B) (hs : s.size ≤ 70000) (hk1 : wrap64 (kind.tmod 6 + 6) = kind.tmod 6 + 6) (hk : (kind.tmod 6 + 6).tmod 6 = 4) (hn : n < 0) : Calls Tryz.prog 8 #[.pointer (some ⟨gj, 0, none⟩), .pointer (some ⟨gd, 0, none⟩), .agg #[u, .int .u64 (ep : Int)], .agg #[.int .i64 kind, .int .i64 n, .string s]] w fun e w' => AP K B gd c e w' := by
  obtain ⟨ao, cu, rfl⟩ := hu.lx.form
  have b0 := acW_bel w (.slice ao L.length cu) ep kind n s
  have AC := hide (acW_ac w (.slice ao L.length cu) ep kind n s)
  have H0 := hide (h.next b0)
  have H1 := hide (h.next b0).here
  have HJ := hide (js_not h)
  have HM := hide (hu.next b0)
  have HUn : Hid (∀ g, w.heap.size ≤ g → Value.ownBlock (.slice ao L.length cu) ≠ some g) := fun g hg e => by
    have := (hu.far g e).1
    omega
  have HBs : Hid (B.heap.size ≤ w.heap.size + 1 + 1) := by
    have := h.bel.size
    show _ ≤ _
    omega
  have KB1 : Hid (KB (js T gj v) (acW w (.slice ao L.length cu) ep kind n s)) := by
    have kg := hK.at_ (h.next b0).bel
    refine ⟨kg, fun c => ?_⟩
    have up : K 0 ∨ B.heap.size ≤ 0 := by
      rcases c with c | c | c
      · exact h.far _ c
      · exact c ▸ h.jfar
      · exact (h.vfar _ c).1
    rcases up with c | c
    · exact hK.2 c
    · have := hK.1.lt
      omega
  have HA := hide fun K' B' W T' (j : JB K' B' W gj gd ⟨logN, ep, L, torn, false⟩ x T' v) => cutJ_arg j rfl n (.inl hn)
  have DS := hide hd.more
  have a1 := AC.out.a1
  have m0 := AC.out.m0
  unfold acW at *
  clear h hu hd hc b0 hK
  go_enter Tryz.func8, Tryz.ntmps8
  go_upto_region 15 with fail
  generalize ((w.alloc (.cells #[.slice ao L.length cu, .int .u64 (ep : Int)] 33)).alloc (.cells #[.int .i64 kind, .int .i64 n, .string s] 35)).alloc (.cells #[.slice none 0 0, .int .u64 0] 33) = W0 at *
  go_upto_region 17 with (go_at_call 24; refine (HA.out _ _ _ _ H1.out).mono ?_; rintro e w3 ⟨rfl, hw⟩; subst w3)
  refine wp_region_held_drew (S := fun W => W.cell? ⟨w.heap.size, 0, none⟩ = some (.slice ao L.length cu) ∧ W.cell? ⟨w.heap.size, 1, none⟩ = some (.int .u64 (ep : Int))) (by kernel_rfl) ⟨AC.out.m0, AC.out.m1⟩ (fun hH => ?_)
  refine wpAnyH_take (i := 0) (v := .pointer (some ⟨gj, 0, none⟩)) rfl (by kernel_rfl) (by kernel_rfl) (by kernel_rfl) (fun _ _ _ h => h) (yl_move (by rfl) _ (by rfl) _ (by rfl)) hH ?_
  change wpAnyH _ _ _ _ _ _ _ (Act.put _ (some 114) _) _
  simp only [Act.put, List.setIfInBounds_toArray, List.set_cons_zero, List.set_cons_succ]
  refine wpAnyH_take (i := 1) (v := .agg #[.slice ao L.length cu, .int .u64 (ep : Int)]) rfl (by kernel_rfl) (by kernel_rfl) (by kernel_rfl) (fun _ _ _ h => h) (.inl ⟨by rfl, fun W hS => by have c4 := hS.1; have c5 := hS.2; go_simp⟩) hH ?_
  change wpAnyH _ _ _ _ _ _ _ (Act.put _ (some 115) _) _
  simp only [Act.put, List.setIfInBounds_toArray, List.set_cons_zero, List.set_cons_succ]
  refine wpAnyH_take (i := 2) (v := .int .i64 1) rfl (by kernel_rfl) (by kernel_rfl) (by kernel_rfl) (fun _ _ _ h => h) (yl_move (by rfl) _ (by rfl) _ (by rfl)) hH ?_
  change wpAnyH _ _ _ _ _ _ _ (Act.put _ (some 116) _) _
  simp only [Act.put, List.setIfInBounds_toArray, List.set_cons_zero, List.set_cons_succ]
  refine wpAnyH_take (i := 3) (v := .bool true) rfl (by kernel_rfl) (by kernel_rfl) (by kernel_rfl) (fun _ _ _ h => h) (.inl ⟨by rfl, fun W _ => by go_simp⟩) hH ?_
  change wpAnyH _ _ _ _ _ _ _ (Act.put _ (some 117) _) _
  simp only [Act.put, List.setIfInBounds_toArray, List.set_cons_zero, List.set_cons_succ]
  refine wpAnyH_take (i := 4) (v := .pointer (some ⟨gj, 0, none⟩)) rfl (by kernel_rfl) (by kernel_rfl) (by kernel_rfl) (fun _ _ _ h => h) (.inl ⟨by rfl, fun W _ => by go_simp⟩) hH ?_
  change wpAnyH _ _ _ _ _ _ _ (Act.put _ (some 8) _) _
  simp only [Act.put, List.setIfInBounds_toArray, List.set_cons_zero, List.set_cons_succ]
  have A4 := hide (AC.out.next (Below.refl W0.heap.size W0).drew)
  have J4 := hide (H1.out.next (Below.refl W0.heap.size W0).drew)
  have hltr := hide (lt_heap AC.out.r)
  generalize W0.drew = W4 at *
  have q0 : W4.cell? ⟨w.heap.size + 1 + 1, 0, none⟩ = some (.slice none 0 0) := by rw [cell_of_row _ _ 0 _ _ _ A4.out.r]; rfl
  have q1 : W4.cell? ⟨w.heap.size + 1 + 1, 1, none⟩ = some (.int .u64 0) := by rw [cell_of_row _ _ 1 _ _ _ A4.out.r]; rfl
  have f0 := frozen_of_row _ _ 0 _ _ A4.out.r
  have f1 := frozen_of_row _ _ 1 _ _ A4.out.r
  refine wpAnyH_ready (rs := [5]) (by kernel_rfl) (by simp) (AllReadyH.cons rfl (fun K1 hK1 => ?_) AllReadyH.nil)
  go_simp
  have R5 := hide (st2_row (a := .slice ao L.length cu) (b := .int .u64 (ep : Int)) A4.out.r)
  have M5 := hide (((st2_fr W4 (w.heap.size + 1 + 1) (.slice ao L.length cu) (.int .u64 (ep : Int))).block _ (lt_heap A4.out.m) (by omega)).trans A4.out.m)
  refine hK1.out _ (st2 W4 (w.heap.size + 1 + 1) (.slice ao L.length cu) (.int .u64 (ep : Int))) ⟨by rw [cell_of_row _ _ 0 _ _ _ M5.out]; rfl, by rw [cell_of_row _ _ 1 _ _ _ M5.out]; rfl⟩ (fun hH => ?_)
  clear hK1 q0 q1 f0 f1
  refine wpAnyH_take (i := 6) (v := .bool true) rfl (by kernel_rfl) (by kernel_rfl) (by kernel_rfl) (fun _ _ _ h => h) (.inl ⟨by rfl, fun W _ => by go_simp⟩) hH ?_
  change wpAnyH _ _ _ _ _ _ _ (Act.put _ (some 10) _) _
  simp only [Act.put, List.setIfInBounds_toArray, List.set_cons_zero, List.set_cons_succ]
  refine wpAnyH_done (by kernel_rfl) ?_ _
  have FIN := hide (AP.fin (w := w) H0.out HJ.out HBs.out hltr.out J4.out (HM.out.over J4.out) (HUn.out _ (by omega)) DS.out _ rfl)
  clear M5 H0 H1 HM AC
  go_wp2
  (try simp only [Exit.inBlock, Exit.then])
  refine bodyPost_ret (resM AMd rfl _ _ (w.heap.size + 1 + 1) _ _ rfl rfl R5.out _ rfl _ rfl) rfl ?_
  exact FIN.out
theorem act_cutbig {ep torn c : Nat} {L : List ByteArray} {u : Value} {kind n : Int} {s : ByteArray} (h : JB K B w gj gd ⟨logN, ep, L, torn, false⟩ x T v) (hu : MU w T gj v u L) (hd : Ds x ep L c) (hc : c < 60) (hK : KB K B) (hs : s.size ≤ 70000) (hk1 : wrap64 (kind.tmod 6 + 6) = kind.tmod 6 + 6) (hk : (kind.tmod 6 + 6).tmod 6 = 4) (h0 : ¬ n < 0) (hn : (L.length : Int) < n) : Calls Tryz.prog 8 #[.pointer (some ⟨gj, 0, none⟩), .pointer (some ⟨gd, 0, none⟩), .agg #[u, .int .u64 (ep : Int)], .agg #[.int .i64 kind, .int .i64 n, .string s]] w fun e w' => AP K B gd c e w' := by
  obtain ⟨ao, cu, rfl⟩ := hu.lx.form
  have b0 := acW_bel w (.slice ao L.length cu) ep kind n s
  have AC := hide (acW_ac w (.slice ao L.length cu) ep kind n s)
  have H0 := hide (h.next b0)
  have H1 := hide (h.next b0).here
  have HJ := hide (js_not h)
  have HM := hide (hu.next b0)
  have HUn : Hid (∀ g, w.heap.size ≤ g → Value.ownBlock (.slice ao L.length cu) ≠ some g) := fun g hg e => by
    have := (hu.far g e).1
    omega
  have HBs : Hid (B.heap.size ≤ w.heap.size + 1 + 1) := by
    have := h.bel.size
    show _ ≤ _
    omega
  have KB1 : Hid (KB (js T gj v) (acW w (.slice ao L.length cu) ep kind n s)) := by
    have kg := hK.at_ (h.next b0).bel
    refine ⟨kg, fun c => ?_⟩
    have up : K 0 ∨ B.heap.size ≤ 0 := by
      rcases c with c | c | c
      · exact h.far _ c
      · exact c ▸ h.jfar
      · exact (h.vfar _ c).1
    rcases up with c | c
    · exact hK.2 c
    · have := hK.1.lt
      omega
  have HA := hide fun K' B' W T' (j : JB K' B' W gj gd ⟨logN, ep, L, torn, false⟩ x T' v) => cutJ_arg j rfl n (.inr hn)
  have DS := hide hd.more
  have a1 := AC.out.a1
  have m0 := AC.out.m0
  unfold acW at *
  clear h hu hd hc b0 hK
  go_enter Tryz.func8, Tryz.ntmps8
  go_upto_region 15 with fail
  generalize ((w.alloc (.cells #[.slice ao L.length cu, .int .u64 (ep : Int)] 33)).alloc (.cells #[.int .i64 kind, .int .i64 n, .string s] 35)).alloc (.cells #[.slice none 0 0, .int .u64 0] 33) = W0 at *
  go_upto_region 17 with (go_at_call 24; refine (HA.out _ _ _ _ H1.out).mono ?_; rintro e w3 ⟨rfl, hw⟩; subst w3)
  refine wp_region_held_drew (S := fun W => W.cell? ⟨w.heap.size, 0, none⟩ = some (.slice ao L.length cu) ∧ W.cell? ⟨w.heap.size, 1, none⟩ = some (.int .u64 (ep : Int))) (by kernel_rfl) ⟨AC.out.m0, AC.out.m1⟩ (fun hH => ?_)
  refine wpAnyH_take (i := 0) (v := .pointer (some ⟨gj, 0, none⟩)) rfl (by kernel_rfl) (by kernel_rfl) (by kernel_rfl) (fun _ _ _ h => h) (yl_move (by rfl) _ (by rfl) _ (by rfl)) hH ?_
  change wpAnyH _ _ _ _ _ _ _ (Act.put _ (some 114) _) _
  simp only [Act.put, List.setIfInBounds_toArray, List.set_cons_zero, List.set_cons_succ]
  refine wpAnyH_take (i := 1) (v := .agg #[.slice ao L.length cu, .int .u64 (ep : Int)]) rfl (by kernel_rfl) (by kernel_rfl) (by kernel_rfl) (fun _ _ _ h => h) (.inl ⟨by rfl, fun W hS => by have c4 := hS.1; have c5 := hS.2; go_simp⟩) hH ?_
  change wpAnyH _ _ _ _ _ _ _ (Act.put _ (some 115) _) _
  simp only [Act.put, List.setIfInBounds_toArray, List.set_cons_zero, List.set_cons_succ]
  refine wpAnyH_take (i := 2) (v := .int .i64 1) rfl (by kernel_rfl) (by kernel_rfl) (by kernel_rfl) (fun _ _ _ h => h) (yl_move (by rfl) _ (by rfl) _ (by rfl)) hH ?_
  change wpAnyH _ _ _ _ _ _ _ (Act.put _ (some 116) _) _
  simp only [Act.put, List.setIfInBounds_toArray, List.set_cons_zero, List.set_cons_succ]
  refine wpAnyH_take (i := 3) (v := .bool true) rfl (by kernel_rfl) (by kernel_rfl) (by kernel_rfl) (fun _ _ _ h => h) (.inl ⟨by rfl, fun W _ => by go_simp⟩) hH ?_
  change wpAnyH _ _ _ _ _ _ _ (Act.put _ (some 117) _) _
  simp only [Act.put, List.setIfInBounds_toArray, List.set_cons_zero, List.set_cons_succ]
  refine wpAnyH_take (i := 4) (v := .pointer (some ⟨gj, 0, none⟩)) rfl (by kernel_rfl) (by kernel_rfl) (by kernel_rfl) (fun _ _ _ h => h) (.inl ⟨by rfl, fun W _ => by go_simp⟩) hH ?_
  change wpAnyH _ _ _ _ _ _ _ (Act.put _ (some 8) _) _
  simp only [Act.put, List.setIfInBounds_toArray, List.set_cons_zero, List.set_cons_succ]
  have A4 := hide (AC.out.next (Below.refl W0.heap.size W0).drew)
  have J4 := hide (H1.out.next (Below.refl W0.heap.size W0).drew)
  have hltr := hide (lt_heap AC.out.r)
  generalize W0.drew = W4 at *
  have q0 : W4.cell? ⟨w.heap.size + 1 + 1, 0, none⟩ = some (.slice none 0 0) := by rw [cell_of_row _ _ 0 _ _ _ A4.out.r]; rfl
  have q1 : W4.cell? ⟨w.heap.size + 1 + 1, 1, none⟩ = some (.int .u64 0) := by rw [cell_of_row _ _ 1 _ _ _ A4.out.r]; rfl
  have f0 := frozen_of_row _ _ 0 _ _ A4.out.r
  have f1 := frozen_of_row _ _ 1 _ _ A4.out.r
  refine wpAnyH_ready (rs := [5]) (by kernel_rfl) (by simp) (AllReadyH.cons rfl (fun K1 hK1 => ?_) AllReadyH.nil)
  go_simp
  have R5 := hide (st2_row (a := .slice ao L.length cu) (b := .int .u64 (ep : Int)) A4.out.r)
  have M5 := hide (((st2_fr W4 (w.heap.size + 1 + 1) (.slice ao L.length cu) (.int .u64 (ep : Int))).block _ (lt_heap A4.out.m) (by omega)).trans A4.out.m)
  refine hK1.out _ (st2 W4 (w.heap.size + 1 + 1) (.slice ao L.length cu) (.int .u64 (ep : Int))) ⟨by rw [cell_of_row _ _ 0 _ _ _ M5.out]; rfl, by rw [cell_of_row _ _ 1 _ _ _ M5.out]; rfl⟩ (fun hH => ?_)
  clear hK1 q0 q1 f0 f1
  refine wpAnyH_take (i := 6) (v := .bool true) rfl (by kernel_rfl) (by kernel_rfl) (by kernel_rfl) (fun _ _ _ h => h) (.inl ⟨by rfl, fun W _ => by go_simp⟩) hH ?_
  change wpAnyH _ _ _ _ _ _ _ (Act.put _ (some 10) _) _
  simp only [Act.put, List.setIfInBounds_toArray, List.set_cons_zero, List.set_cons_succ]
  refine wpAnyH_done (by kernel_rfl) ?_ _
  have FIN := hide (AP.fin (w := w) H0.out HJ.out HBs.out hltr.out J4.out (HM.out.over J4.out) (HUn.out _ (by omega)) DS.out _ rfl)
  clear M5 H0 H1 HM AC
  go_wp2
  (try simp only [Exit.inBlock, Exit.then])
  refine bodyPost_ret (resM AMd rfl _ _ (w.heap.size + 1 + 1) _ _ rfl rfl R5.out _ rfl _ rfl) rfl ?_
  exact FIN.out
end
end Go.Proofs.YtgncphoaknffnaaGreatDoor
