/- Journals: what the law does: records are cut. -/
import Derived.Test.YtgncphoaknffnaaGreatDoorP22
namespace Go.Proofs.YtgncphoaknffnaaGreatDoor
open Go.RowKit
open Go.Deep
open Go.Lib
set_option linter.unusedVariables false
section
set_option maxRecDepth 10000
set_option maxHeartbeats 2000000
variable {K : Nat → Prop} {B w : World} {gj gd : Nat} {J : Jr} {x : StD} {T : Nat → Prop} {v : Value}
theorem cutJ_ok (m : Nat) (hm : m ≤ J.recs.length) (h : JB K B w gj gd J x T v) (hd : J.dead = false) (hb : flen (dl J.recs) ≤ 16777216) (hV : Vd x) (hp : x.plan = []) (hf : fnd x J.nm = 0) (hnm : isName (ls J.nm) = true) (hk : flen (dl (J.recs.take m)) ≤ (x.now.at (ls J.nm)).length) (hmany : x.loose.length < 10000) (hmade : x.made < 1000000) : Calls Tryz.prog 24 #[.pointer (some ⟨gj, 0, none⟩), .int .i64 (m : Int)] w fun e w' => e = .returned (.int .i64 0) ∧ ∃ T' v', JB K B w' gj gd { J with recs := J.recs.take m } (mkC x (ctC J.nm (flen (dl (J.recs.take m))))) T' v' := by
  rcases h.own.parts with ⟨rfl, h0⟩ | ⟨g, c, rfl, hc, _, hcl⟩
  · have hm0 : m = 0 := by
      rw [h0] at hm
      simpa using hm
    subst hm0
    exact cutJ_nil h0 h hd hb hV hp hf hnm hk hmany hmade
  · exact cutJ_row m hm hc hcl h hd hb hV hp hf hnm hk hmany hmade
end
section
set_option maxRecDepth 10000
set_option maxHeartbeats 2000000
variable {K : Nat → Prop} {B w : World} {gj gd : Nat} {x : StD} {T : Nat → Prop} {v : Value}
theorem act_cutnil {ep torn c : Nat} {L : List ByteArray} {u : Value} {kind n : Int} {s : ByteArray} (h : JB K B w gj gd ⟨logN, ep, L, torn, false⟩ x T v) (hu : MU w T gj v u L) (hd : Ds x ep L c) (hc : c < 60) (hK : KB K B) (hs : s.size ≤ 70000) (hk1 : wrap64 (kind.tmod 6 + 6) = kind.tmod 6 + 6) (m : Nat) (hnm : n = (m : Int)) (hm : m ≤ L.length) (hk : (kind.tmod 6 + 6).tmod 6 = 4) (hnil : u = .slice none 0 0) (hL0 : L = []) : Calls Tryz.prog 8 #[.pointer (some ⟨gj, 0, none⟩), .pointer (some ⟨gd, 0, none⟩), .agg #[u, .int .u64 (ep : Int)], .agg #[.int .i64 kind, .int .i64 n, .string s]] w fun e w' => AP K B gd c e w' := by
  subst hnm
  subst hnil
  subst hL0
  obtain rfl : m = 0 := by simpa using hm
  have b0 := acW_bel w (.slice none 0 0) ep kind 0 s
  have AC := hide (acW_ac w (.slice none 0 0) ep kind 0 s)
  have H0 := hide (h.next b0)
  have H1 := hide (h.next b0).here
  have HJ := hide (js_not h)
  have HM := hide (hu.next b0)
  have HUn : Hid (∀ g, w.heap.size ≤ g → Value.ownBlock (.slice none 0 0) ≠ some g) := fun g hg e => by
    have := (hu.far g e).1
    omega
  have HBs : Hid (B.heap.size ≤ w.heap.size + 1 + 1) := by
    have := h.bel.size
    show _ ≤ _
    omega
  have KB1 : Hid (KB (js T gj v) (acW w (.slice none 0 0) ep kind 0 s)) := by
    have kg := hK.at_ (h.next b0).bel
    refine ⟨kg, fun c => ?_⟩
    have up : K 0 ∨ B.heap.size ≤ 0 := by
      rcases c with c | c | c
      · exact h.far _ c
      · exact c ▸ h.jfar
      · exact (h.vfar _ c).1
    rcases up with c | c
    · exact hK.2 c
    · have := hK.1.lt
      omega
  have HA := hide fun K' B' W T' (j : JB K' B' W gj gd ⟨logN, ep, [], torn, false⟩ x T' v) => cutJ_ok 0 hm j rfl (show flen (dl []) ≤ 16777216 by have := hd.fl; omega) hd.vd hd.plan hd.fnd (okJ_name okLog) (by show flen (dl (List.take _ [])) ≤ (x.now.at (ls logN)).length; rw [hd.at_, fileL_len, dl_take]; exact flen_le _ _) (by have := hd.loose; omega) (by have := hd.made; omega)
  have DS := hide (hd.cut hc 0 hm)
  have a1 := AC.out.a1
  have m0 := AC.out.m0
  have HBs2 := hide h.bel.size
  have s3 := sl3N
  unfold acW at *
  clear h hd hc b0 hK
  go_enter Tryz.func8, Tryz.ntmps8
  go_upto_region 15 with fail
  generalize ((w.alloc (.cells #[.slice none 0 0, .int .u64 (ep : Int)] 33)).alloc (.cells #[.int .i64 kind, .int .i64 0, .string s] 35)).alloc (.cells #[.slice none 0 0, .int .u64 0] 33) = W0 at *
  go_upto_region 16 with (go_at_call 24; refine (HA.out _ _ _ _ H1.out).mono ?_; rintro e w3 ⟨rfl, T3, v3, j3⟩; have J3 := hide j3; have A3 := hide (AC.out.fr j3.bel HJ.out); clear j3)
  have JO := hide (H0.out.back J3.out)
  have HLr := hide (lt_heap AC.out.r)
  have N3 : Hid (∀ g, w.heap.size ≤ g → g < w.heap.size + 3 → ¬ js T3 gj v3 g) := fun g h1 h2 => js_over J3.out (by have := HLr.out; omega) (HJ.out g h1 h2)
  have M3 := hide (HM.out.over J3.out)
  clear a1 m0
  have a1 := A3.out.a1
  have m0 := A3.out.m0
  have f0 := frozen_of_row _ _ 0 _ _ A3.out.m
  have MC : Hid (MU w3 T3 gj v3 (.slice none 0 0) ([] : List ByteArray)) := M3
  have ST := hide (storeM JO.out A3.out MC.out HBs2.out (N3.out _ (Nat.le_refl _) (by omega)) (HUn.out _ (Nat.le_refl _)))
  have NR := hide (HUn.out (w.heap.size + 1 + 1) (by omega))
  clear H0 H1 HM AC HA KB1 J3 JO M3
  go_upto_region 19 with fail
  clear a1 m0 f0 s3
  generalize w3.setCell ⟨w.heap.size, 0, none⟩ (.slice none 0 0) = wc at *
  have A2 := hide ST.out.1
  refine wp_region_held_drew (S := fun W => W.cell? ⟨w.heap.size, 0, none⟩ = some (.slice none 0 0) ∧ W.cell? ⟨w.heap.size, 1, none⟩ = some (.int .u64 (ep : Int))) (by kernel_rfl) ⟨A2.out.m0, A2.out.m1⟩ (fun hH => ?_)
  refine wpAnyH_take (i := 0) (v := .pointer (some ⟨gj, 0, none⟩)) rfl (by kernel_rfl) (by kernel_rfl) (by kernel_rfl) (fun _ _ _ h => h) (yl_move (by rfl) _ (by rfl) _ (by rfl)) hH ?_
  change wpAnyH _ _ _ _ _ _ _ (Act.put _ (some 126) _) _
  simp only [Act.put, List.setIfInBounds_toArray, List.set_cons_zero, List.set_cons_succ]
  refine wpAnyH_take (i := 1) (v := .agg #[.slice none 0 0, .int .u64 (ep : Int)]) rfl (by kernel_rfl) (by kernel_rfl) (by kernel_rfl) (fun _ _ _ h => h) (.inl ⟨by rfl, fun W hS => by have c4 := hS.1; have c5 := hS.2; go_simp⟩) hH ?_
  change wpAnyH _ _ _ _ _ _ _ (Act.put _ (some 127) _) _
  simp only [Act.put, List.setIfInBounds_toArray, List.set_cons_zero, List.set_cons_succ]
  refine wpAnyH_take (i := 2) (v := .int .i64 0) rfl (by kernel_rfl) (by kernel_rfl) (by kernel_rfl) (fun _ _ _ h => h) (yl_move (by rfl) _ (by rfl) _ (by rfl)) hH ?_
  change wpAnyH _ _ _ _ _ _ _ (Act.put _ (some 128) _) _
  simp only [Act.put, List.setIfInBounds_toArray, List.set_cons_zero, List.set_cons_succ]
  refine wpAnyH_take (i := 3) (v := .bool true) rfl (by kernel_rfl) (by kernel_rfl) (by kernel_rfl) (fun _ _ _ h => h) (.inl ⟨by rfl, fun W _ => by go_simp⟩) hH ?_
  change wpAnyH _ _ _ _ _ _ _ (Act.put _ (some 129) _) _
  simp only [Act.put, List.setIfInBounds_toArray, List.set_cons_zero, List.set_cons_succ]
  refine wpAnyH_take (i := 4) (v := .pointer (some ⟨gj, 0, none⟩)) rfl (by kernel_rfl) (by kernel_rfl) (by kernel_rfl) (fun _ _ _ h => h) (.inl ⟨by rfl, fun W _ => by go_simp⟩) hH ?_
  change wpAnyH _ _ _ _ _ _ _ (Act.put _ (some 8) _) _
  simp only [Act.put, List.setIfInBounds_toArray, List.set_cons_zero, List.set_cons_succ]
  have A4 := hide (A2.out.next (Below.refl wc.heap.size wc).drew)
  have J4 := hide (ST.out.2.1.next (Below.refl wc.heap.size wc).drew)
  have M4 := hide (ST.out.2.2.next (Below.refl wc.heap.size wc).drew)
  clear A2 ST
  generalize wc.drew = W4 at *
  have q0 : W4.cell? ⟨w.heap.size + 1 + 1, 0, none⟩ = some (.slice none 0 0) := by rw [cell_of_row _ _ 0 _ _ _ A4.out.r]; rfl
  have q1 : W4.cell? ⟨w.heap.size + 1 + 1, 1, none⟩ = some (.int .u64 0) := by rw [cell_of_row _ _ 1 _ _ _ A4.out.r]; rfl
  have f0 := frozen_of_row _ _ 0 _ _ A4.out.r
  have f1 := frozen_of_row _ _ 1 _ _ A4.out.r
  refine wpAnyH_ready (rs := [5]) (by kernel_rfl) (by simp) (AllReadyH.cons rfl (fun K1 hK1 => ?_) AllReadyH.nil)
  go_simp
  have R5 := hide (st2_row (a := .slice none 0 0) (b := .int .u64 (ep : Int)) A4.out.r)
  have M5 := hide (((st2_fr W4 (w.heap.size + 1 + 1) (.slice none 0 0) (.int .u64 (ep : Int))).block _ (lt_heap A4.out.m) (by omega)).trans A4.out.m)
  refine hK1.out _ (st2 W4 (w.heap.size + 1 + 1) (.slice none 0 0) (.int .u64 (ep : Int))) ⟨by rw [cell_of_row _ _ 0 _ _ _ M5.out]; rfl, by rw [cell_of_row _ _ 1 _ _ _ M5.out]; rfl⟩ (fun hH => ?_)
  clear hK1 q0 q1 f0 f1
  refine wpAnyH_take (i := 6) (v := .bool true) rfl (by kernel_rfl) (by kernel_rfl) (by kernel_rfl) (fun _ _ _ h => h) (.inl ⟨by rfl, fun W _ => by go_simp⟩) hH ?_
  change wpAnyH _ _ _ _ _ _ _ (Act.put _ (some 10) _) _
  simp only [Act.put, List.setIfInBounds_toArray, List.set_cons_zero, List.set_cons_succ]
  refine wpAnyH_done (by kernel_rfl) ?_ _
  have FIN := hide (AP.fin2 J4.out HBs.out (N3.out _ (by omega) (by omega)) M4.out NR.out DS.out _ rfl)
  clear M5
  go_wp2
  (try simp only [Exit.inBlock, Exit.then])
  refine bodyPost_ret (resM AMd rfl _ _ (w.heap.size + 1 + 1) _ _ rfl rfl R5.out _ rfl _ rfl) rfl ?_
  exact FIN.out
theorem act_cutrow {ep torn c : Nat} {L : List ByteArray} {u : Value} {kind n : Int} {s : ByteArray} (h : JB K B w gj gd ⟨logN, ep, L, torn, false⟩ x T v) (hu : MU w T gj v u L) (hd : Ds x ep L c) (hc : c < 60) (hK : KB K B) (hs : s.size ≤ 70000) (hk1 : wrap64 (kind.tmod 6 + 6) = kind.tmod 6 + 6) (m : Nat) (hnm : n = (m : Int)) (hm : m ≤ L.length) (hk : (kind.tmod 6 + 6).tmod 6 = 4) {gq c0 : Nat} (hrow : u = .slice (some ⟨gq, 0, none⟩) L.length c0) (hcap : L.length ≤ c0) : Calls Tryz.prog 8 #[.pointer (some ⟨gj, 0, none⟩), .pointer (some ⟨gd, 0, none⟩), .agg #[u, .int .u64 (ep : Int)], .agg #[.int .i64 kind, .int .i64 n, .string s]] w fun e w' => AP K B gd c e w' := by
  subst hnm
  subst hrow
  have b0 := acW_bel w (.slice (some ⟨gq, 0, none⟩) L.length c0) ep kind (m : Int) s
  have AC := hide (acW_ac w (.slice (some ⟨gq, 0, none⟩) L.length c0) ep kind (m : Int) s)
  have H0 := hide (h.next b0)
  have H1 := hide (h.next b0).here
  have HJ := hide (js_not h)
  have HM := hide (hu.next b0)
  have HUn : Hid (∀ g, w.heap.size ≤ g → Value.ownBlock (.slice (some ⟨gq, 0, none⟩) L.length c0) ≠ some g) := fun g hg e => by
    have := (hu.far g e).1
    omega
  have HBs : Hid (B.heap.size ≤ w.heap.size + 1 + 1) := by
    have := h.bel.size
    show _ ≤ _
    omega
  have KB1 : Hid (KB (js T gj v) (acW w (.slice (some ⟨gq, 0, none⟩) L.length c0) ep kind (m : Int) s)) := by
    have kg := hK.at_ (h.next b0).bel
    refine ⟨kg, fun c => ?_⟩
    have up : K 0 ∨ B.heap.size ≤ 0 := by
      rcases c with c | c | c
      · exact h.far _ c
      · exact c ▸ h.jfar
      · exact (h.vfar _ c).1
    rcases up with c | c
    · exact hK.2 c
    · have := hK.1.lt
      omega
  have HA := hide fun K' B' W T' (j : JB K' B' W gj gd ⟨logN, ep, L, torn, false⟩ x T' v) => cutJ_ok m hm j rfl (show flen (dl L) ≤ 16777216 by have := hd.fl; omega) hd.vd hd.plan hd.fnd (okJ_name okLog) (by show flen (dl (List.take _ L)) ≤ (x.now.at (ls logN)).length; rw [hd.at_, fileL_len, dl_take]; exact flen_le _ _) (by have := hd.loose; omega) (by have := hd.made; omega)
  have DS := hide (hd.cut hc m hm)
  have a1 := AC.out.a1
  have m0 := AC.out.m0
  have HBs2 := hide h.bel.size
  have n0 : (0 : Int) ≤ (m : Int) := by omega
  have n1 : ¬ (L.length : Int) < (m : Int) := by omega
  have n2 : ¬ (m : Int) < 0 := by omega
  have s3 := (fun W => sl3S gq L.length c0 m (by omega) W)
  unfold acW at *
  clear h hd hc b0 hK
  go_enter Tryz.func8, Tryz.ntmps8
  go_upto_region 15 with fail
  generalize ((w.alloc (.cells #[.slice (some ⟨gq, 0, none⟩) L.length c0, .int .u64 (ep : Int)] 33)).alloc (.cells #[.int .i64 kind, .int .i64 (m : Int), .string s] 35)).alloc (.cells #[.slice none 0 0, .int .u64 0] 33) = W0 at *
  go_upto_region 16 with (go_at_call 24; refine (HA.out _ _ _ _ H1.out).mono ?_; rintro e w3 ⟨rfl, T3, v3, j3⟩; have J3 := hide j3; have A3 := hide (AC.out.fr j3.bel HJ.out); clear j3)
  have JO := hide (H0.out.back J3.out)
  have HLr := hide (lt_heap AC.out.r)
  have N3 : Hid (∀ g, w.heap.size ≤ g → g < w.heap.size + 3 → ¬ js T3 gj v3 g) := fun g h1 h2 => js_over J3.out (by have := HLr.out; omega) (HJ.out g h1 h2)
  have M3 := hide (HM.out.over J3.out)
  clear a1 m0
  have a1 := A3.out.a1
  have m0 := A3.out.m0
  have f0 := frozen_of_row _ _ 0 _ _ A3.out.m
  have MC : Hid (MU w3 T3 gj v3 (.slice (some ⟨gq, 0, none⟩) m m) (L.take m)) := by
    have e : (L.take m).length = m := by rw [List.length_take]; omega
    refine ⟨⟨_, _, by rw [e], by rw [e]; exact Nat.le_refl _, fun i hi => ?_⟩, fun k hk => M3.out.far k hk,   .inr ⟨gq, m, by rw [e], by rw [e]; exact Nat.le_refl _⟩⟩
    obtain ⟨ao', cap', e1, e2, e3⟩ := M3.out.lx
    have hi' : i < L.length := by rw [e] at hi; omega
    obtain ⟨g1, off1, q1, q2, q3⟩ := e3 i hi'
    injection e1 with e1a
    rw [q1] at e1a
    cases e1a
    exact ⟨_, _, rfl, q2, by rw [List.getElem_take]; exact q3⟩
  have ST := hide (storeM JO.out A3.out MC.out HBs2.out (N3.out _ (Nat.le_refl _) (by omega)) (HUn.out _ (Nat.le_refl _)))
  have NR := hide (HUn.out (w.heap.size + 1 + 1) (by omega))
  clear H0 H1 HM AC HA KB1 J3 JO M3
  go_upto_region 19 with fail
  clear a1 m0 f0 s3
  generalize w3.setCell ⟨w.heap.size, 0, none⟩ (.slice (some ⟨gq, 0, none⟩) m m) = wc at *
  have A2 := hide ST.out.1
  refine wp_region_held_drew (S := fun W => W.cell? ⟨w.heap.size, 0, none⟩ = some (.slice (some ⟨gq, 0, none⟩) m m) ∧ W.cell? ⟨w.heap.size, 1, none⟩ = some (.int .u64 (ep : Int))) (by kernel_rfl) ⟨A2.out.m0, A2.out.m1⟩ (fun hH => ?_)
  refine wpAnyH_take (i := 0) (v := .pointer (some ⟨gj, 0, none⟩)) rfl (by kernel_rfl) (by kernel_rfl) (by kernel_rfl) (fun _ _ _ h => h) (yl_move (by rfl) _ (by rfl) _ (by rfl)) hH ?_
  change wpAnyH _ _ _ _ _ _ _ (Act.put _ (some 126) _) _
  simp only [Act.put, List.setIfInBounds_toArray, List.set_cons_zero, List.set_cons_succ]
  refine wpAnyH_take (i := 1) (v := .agg #[.slice (some ⟨gq, 0, none⟩) m m, .int .u64 (ep : Int)]) rfl (by kernel_rfl) (by kernel_rfl) (by kernel_rfl) (fun _ _ _ h => h) (.inl ⟨by rfl, fun W hS => by have c4 := hS.1; have c5 := hS.2; go_simp⟩) hH ?_
  change wpAnyH _ _ _ _ _ _ _ (Act.put _ (some 127) _) _
  simp only [Act.put, List.setIfInBounds_toArray, List.set_cons_zero, List.set_cons_succ]
  refine wpAnyH_take (i := 2) (v := .int .i64 0) rfl (by kernel_rfl) (by kernel_rfl) (by kernel_rfl) (fun _ _ _ h => h) (yl_move (by rfl) _ (by rfl) _ (by rfl)) hH ?_
  change wpAnyH _ _ _ _ _ _ _ (Act.put _ (some 128) _) _
  simp only [Act.put, List.setIfInBounds_toArray, List.set_cons_zero, List.set_cons_succ]
  refine wpAnyH_take (i := 3) (v := .bool true) rfl (by kernel_rfl) (by kernel_rfl) (by kernel_rfl) (fun _ _ _ h => h) (.inl ⟨by rfl, fun W _ => by go_simp⟩) hH ?_
  change wpAnyH _ _ _ _ _ _ _ (Act.put _ (some 129) _) _
  simp only [Act.put, List.setIfInBounds_toArray, List.set_cons_zero, List.set_cons_succ]
  refine wpAnyH_take (i := 4) (v := .pointer (some ⟨gj, 0, none⟩)) rfl (by kernel_rfl) (by kernel_rfl) (by kernel_rfl) (fun _ _ _ h => h) (.inl ⟨by rfl, fun W _ => by go_simp⟩) hH ?_
  change wpAnyH _ _ _ _ _ _ _ (Act.put _ (some 8) _) _
  simp only [Act.put, List.setIfInBounds_toArray, List.set_cons_zero, List.set_cons_succ]
  have A4 := hide (A2.out.next (Below.refl wc.heap.size wc).drew)
  have J4 := hide (ST.out.2.1.next (Below.refl wc.heap.size wc).drew)
  have M4 := hide (ST.out.2.2.next (Below.refl wc.heap.size wc).drew)
  clear A2 ST
  generalize wc.drew = W4 at *
  have q0 : W4.cell? ⟨w.heap.size + 1 + 1, 0, none⟩ = some (.slice none 0 0) := by rw [cell_of_row _ _ 0 _ _ _ A4.out.r]; rfl
  have q1 : W4.cell? ⟨w.heap.size + 1 + 1, 1, none⟩ = some (.int .u64 0) := by rw [cell_of_row _ _ 1 _ _ _ A4.out.r]; rfl
  have f0 := frozen_of_row _ _ 0 _ _ A4.out.r
  have f1 := frozen_of_row _ _ 1 _ _ A4.out.r
  refine wpAnyH_ready (rs := [5]) (by kernel_rfl) (by simp) (AllReadyH.cons rfl (fun K1 hK1 => ?_) AllReadyH.nil)
  go_simp
  have R5 := hide (st2_row (a := .slice (some ⟨gq, 0, none⟩) m m) (b := .int .u64 (ep : Int)) A4.out.r)
  have M5 := hide (((st2_fr W4 (w.heap.size + 1 + 1) (.slice (some ⟨gq, 0, none⟩) m m) (.int .u64 (ep : Int))).block _ (lt_heap A4.out.m) (by omega)).trans A4.out.m)
  refine hK1.out _ (st2 W4 (w.heap.size + 1 + 1) (.slice (some ⟨gq, 0, none⟩) m m) (.int .u64 (ep : Int))) ⟨by rw [cell_of_row _ _ 0 _ _ _ M5.out]; rfl, by rw [cell_of_row _ _ 1 _ _ _ M5.out]; rfl⟩ (fun hH => ?_)
  clear hK1 q0 q1 f0 f1
  refine wpAnyH_take (i := 6) (v := .bool true) rfl (by kernel_rfl) (by kernel_rfl) (by kernel_rfl) (fun _ _ _ h => h) (.inl ⟨by rfl, fun W _ => by go_simp⟩) hH ?_
  change wpAnyH _ _ _ _ _ _ _ (Act.put _ (some 10) _) _
  simp only [Act.put, List.setIfInBounds_toArray, List.set_cons_zero, List.set_cons_succ]
  refine wpAnyH_done (by kernel_rfl) ?_ _
  have FIN := hide (AP.fin2 J4.out HBs.out (N3.out _ (by omega) (by omega)) M4.out NR.out DS.out _ rfl)
  clear M5
  go_wp2
  (try simp only [Exit.inBlock, Exit.then])
  refine bodyPost_ret (resM AMd rfl _ _ (w.heap.size + 1 + 1) _ _ rfl rfl R5.out _ rfl _ rfl) rfl ?_
  exact FIN.out
end
end Go.Proofs.YtgncphoaknffnaaGreatDoor
