/- Journals: a file is opened again. Journals: the document's File; two lists that are the same or not. Journals: what stands while a law plays. Journals: the document's take; the same texts. -/
import Derived.Test.YtgncphoaknffnaaGreatDoorP18
import Derived.Test.YtgncphoaknffnaaGreatDoorP16
namespace Go.Proofs.YtgncphoaknffnaaGreatDoor
open Go.RowKit
open Go.Deep
open Go.Lib
set_option linter.unusedVariables false
theorem bs1F (w : World) (a : Fn) (a1 a2 : Array Value) : (Instr.buildSlice 59 1 #[(0, .func a a1 a2)]).run Tryz.prog w = .ok (.slice (some ⟨w.heap.size, 0, none⟩) 1 1) (w.alloc (.cells #[.func a a1 a2] 66)) := by kernel_rfl
section
set_option maxRecDepth 10000
set_option maxHeartbeats 1000000
theorem load_file {K : Nat → Prop} {B w : World} {gj gd : Nat} {nm : ByteArray} {x : StD} {T : Nat → Prop} (h : JB K B w gj gd ⟨nm, 0, [], 0, false⟩ x T (.slice none 0 0)) (hK : KB K B) (hm : nm.size ≤ 28) (hf : fnd x nm = 0) {ep : Nat} (he : U64 ep) (L : List (List UInt8)) (hat : x.now.at (ls nm) = fileL ep L) (hL : ∀ s ∈ L, s.length ≤ 65536) (hb : flen L ≤ 16777216) : Calls Tryz.prog 16 #[.pointer (some ⟨gj, 0, none⟩)] w fun e w' => ∃ gb gs v', e = .returned (.tuple #[.slice (some ⟨gs, 0, none⟩) 1 1, .int .i64 0]) ∧ JB K B w' gj gd ⟨nm, ep, L.map txt, 0, false⟩ x T v' ∧ Ex w' T [(gb, boxJ gj), (gs, .cells #[fTidy gb] 66)] := by
  obtain ⟨ft, hft⟩ : ∃ ft, ft = txt (fileL ep L) := ⟨_, rfl⟩
  have b0 : Below w.heap.size w (w.alloc (boxJ gj)) := (Below.refl _ _).alloc (Nat.le_refl _) _
  have HJ := hide (h.next b0)
  have rb := heap_alloc_last w (boxJ gj)
  have HR : Hid (∀ W, Below (w.alloc (boxJ gj)).heap.size (w.alloc (boxJ gj)) W → Calls Tryz.prog 23 #[.pointer (some ⟨gd, 0, none⟩), .string nm] W fun e w' => e = .returned (.tuple #[.string ft, .int .i64 0]) ∧ Below W.heap.size W w') := fun W hb => by
    have := read_any gd x T nm W (HJ.out.dk.below hb) (by unfold maxLen; omega)
    rw [hf, if_pos rfl, hat] at this
    rw [show (⟨(fileL ep L).toArray⟩ : ByteArray) = ft from hft.symm] at this
    exact this
  have HT : Hid (¬ T w.heap.size) := fun e => by
    have := h.dk.lt _ e
    omega
  have hz : ft.size = flen L := by rw [hft, txtJ_size, fileL_len]
  have hge := file_ge ep L
  rw [← hft] at hge
  have hpf := pfx_file ep L
  rw [← hft] at hpf
  have hth := thE_file ep L he
  rw [← hft] at hth
  have HRD : Hid (∀ W, Kg W → Calls Tryz.prog 40 #[.string ft] W fun e w' => ∃ v', e = .returned (.tuple #[.int .u64 ep, v', .int .i64 0, .int .i64 0]) ∧ OX KS w' v' (L.map txt) ∧ (∀ g, v'.ownBlock = some g → W.heap.size ≤ g) ∧ Below W.heap.size W w') := fun W hKW => by
    refine (readJ_yes ft (by omega) W hKW (by rw [hth]; exact hpf)).mono ?_
    rintro e w' ⟨v', L', a, rfl, r⟩
    rw [hth] at r ⊢
    rw [hft] at r
    obtain ⟨rfl, rfl⟩ := rdJ_file hL r
    rw [hz, show ((flen L' : Nat) : Int) - (flen L' : Nat) = 0 by omega]
    exact ⟨v', rfl, r.own, r.far, r.bel⟩
  have HKW := hide fun W (f : Fr K B W) => hK.at_ f
  have hge2 : ¬ (ft.size : Int) < 20 := by omega
  clear hf hft hpf hth hge hat hz hb
  unfold boxJ at b0 rb HJ HR
  go_enter Tryz.func16, Tryz.ntmps16
  go_upto_region 2 with fail
  generalize hW0 : w.alloc (.cells #[.pointer (some ⟨gj, 0, none⟩)] 25) = W0 at *
  have HC : Hid (∀ W, Below W0.heap.size W0 W → W.cell? ⟨w.heap.size, 0, none⟩ = some (.pointer (some ⟨gj, 0, none⟩)) ∧ W.cell? ⟨gj, 0, none⟩ = some (.pointer (some ⟨gd, 0, none⟩)) ∧ W.cell? ⟨gj, 1, none⟩ = some (.string nm)) := fun W hb => by
    have J := HJ.out.next hb
    refine ⟨?_, J.c0, J.c1⟩
    rw [cell_of_row _ _ 0 _ _ _ ((hb.block _ (lt_heap rb)).trans rb)]
    rfl
  have RB := hide rb
  clear rb h hW0
  go_cut [5, 6] from 10 to 21 (fun s5 s6 wx => ∃ g5, s5 = .pointer (some ⟨g5, 0, none⟩) ∧ s6 = .int .i64 0 ∧ Hid (Below W0.heap.size W0 wx ∧ wx.heap[g5]? = some (.cells #[.string ft] 9 (0, 0)) ∧ W0.heap.size ≤ g5))
  case first =>
    go_region_held3 (fun w' => Below W0.heap.size W0 w' ∧ w'.cell? ⟨w.heap.size, 0, none⟩ = some (.pointer (some ⟨gj, 0, none⟩)) ∧ w'.cell? ⟨gj, 0, none⟩ = some (.pointer (some ⟨gd, 0, none⟩)) ∧ w'.cell? ⟨gj, 1, none⟩ = some (.string nm)) (first | assumption | exact (fun hb => ⟨hb, HC.out _ hb⟩) ((Below.refl _ _).drew) | exact (fun hb => ⟨hb, HC.out _ hb⟩) (below_next (And.left (by assumption)) be) | exact (fun hb => ⟨hb, HC.out _ hb⟩) (bel_new (And.left (by assumption)) _) | exact (fun hb => ⟨hb, HC.out _ hb⟩) (bel_new ((Below.refl W0.heap.size W0).drew.trans be) _) | exact (fun hb => ⟨hb, HC.out _ hb⟩) (bel_set (And.left (by assumption)) (by first | exact Nat.le_refl _ | exact sz1.out) _)) (first | (go_at_call 23; refine (HR.out _ (And.left (by assumption))).mono ?_; rintro e w1 ⟨rfl, be⟩; have sz1 : Hid (W0.heap.size ≤ w1.heap.size) := (below_next (And.left (by assumption)) be).size; (try have zr := hide (str_newD be)); (try have z1 := str_cell zr.out); (try have z2 := frozen_of_row _ _ 0 _ _ zr.out)))
    all_goals (go_wp2_with fail; go_meet)
    all_goals first | exact ⟨_, rfl, rfl, And.left (by assumption), heap_alloc_last _ _, sz1.out⟩ | exact ⟨_, rfl, rfl, And.left (by assumption), str_set zr.out _, Nat.le_refl _⟩
  obtain ⟨g5, rfl, rfl, HX⟩ := hcut
  have hc := HC.out wc HX.out.1
  have k1 := hc.1
  have k2 := hc.2.1
  have k3 := str_cell HX.out.2.1
  clear hc HC HR
  have hc5 := HX.out.2.1
  have JC := hide (HJ.out.next HX.out.1)
  have RBc : Hid (wc.heap[w.heap.size]? = some (.cells #[.pointer (some ⟨gj, 0, none⟩)] 25 (0, 0))) := (HX.out.1.block _ (lt_heap RB.out)).trans RB.out
  have lt0 := HJ.out.lt
  have hgb : Hid (w.heap.size ≠ gj) := fun e => by
    have h1 := RB.out
    have h2 := HJ.out.row
    rw [e] at h1
    rw [h1] at h2
    have := Option.some.inj h2
    injection this with _ ht _
    exact absurd ht (by decide)
  have hg5 : Hid (g5 ≠ gj) := fun e => by
    have h1 := HX.out.2.2
    omega
  have HT5 : Hid (w.heap.size < wc.heap.size) := lt_heap RBc.out
  clear k2
  go_upto_region 8 with fail
  have rc5 := hide hc5
  clear hc5 HX
  refine wp_region_held_drew (S := fun W => W.cell? ⟨w.heap.size, 0, none⟩ = some (.pointer (some ⟨gj, 0, none⟩)) ∧ W.cell? ⟨g5, 0, none⟩ = some (.string ft)) (by kernel_rfl) ⟨k1, k3⟩ (fun hH => ?_)
  refine wpAnyH_take (i := 0) (v := .pointer (some ⟨gj, 0, none⟩)) rfl (by kernel_rfl) (by kernel_rfl) (by kernel_rfl) (fun _ _ _ h => h) (.inl ⟨by rfl, fun W hS => by have c4 := hS.1; go_simp⟩) hH ?_
  change wpAnyH _ _ _ _ _ _ _ (Act.put _ (some 42) _) _
  simp only [Act.put, List.setIfInBounds_toArray, List.set_cons_zero, List.set_cons_succ]
  refine wpAnyH_take (i := 1) (v := .pointer (some ⟨gj, 0, none⟩)) rfl (by kernel_rfl) (by kernel_rfl) (by kernel_rfl) (fun _ _ _ h => h) (.inl ⟨by rfl, fun W hS => by have c4 := hS.1; go_simp⟩) hH ?_
  change wpAnyH _ _ _ _ _ _ _ (Act.put _ (some 43) _) _
  simp only [Act.put, List.setIfInBounds_toArray, List.set_cons_zero, List.set_cons_succ]
  refine wpAnyH_take (i := 2) (v := .pointer (some ⟨gj, 0, none⟩)) rfl (by kernel_rfl) (by kernel_rfl) (by kernel_rfl) (fun _ _ _ h => h) (.inl ⟨by rfl, fun W hS => by have c4 := hS.1; go_simp⟩) hH ?_
  change wpAnyH _ _ _ _ _ _ _ (Act.put _ (some 44) _) _
  simp only [Act.put, List.setIfInBounds_toArray, List.set_cons_zero, List.set_cons_succ]
  refine wpAnyH_take (i := 3) (v := .string ft) rfl (by kernel_rfl) (by kernel_rfl) (by kernel_rfl) (fun _ _ _ h => h) (.inl ⟨by rfl, fun W hS => by have c4 := hS.2; go_simp⟩) hH ?_
  change wpAnyH _ _ _ _ _ _ _ (Act.put _ (some 45) _) _
  simp only [Act.put, List.setIfInBounds_toArray, List.set_cons_zero, List.set_cons_succ]
  refine wpAnyH_ready (rs := [4]) (by kernel_rfl) (by simp) (AllReadyH.cons rfl (fun K1 hK1 => ?_) AllReadyH.nil)
  go_simp
  refine (HRD.out _ (HKW.out _ (JC.out.bel.next (Below.refl _ _).drew))).mono ?_
  rintro e w7 ⟨v7, rfl, o7, far7, b7⟩
  have bb : Below wc.heap.size wc w7 := (Below.refl wc.heap.size wc).drew.trans b7
  have J7 := hide (JC.out.next bb)
  have O7 := hide (And.intro o7 far7)
  have RB7 : Hid (w7.heap[w.heap.size]? = some (.cells #[.pointer (some ⟨gj, 0, none⟩)] 25 (0, 0))) := (bb.block _ (lt_heap RBc.out)).trans RBc.out
  have R57 : Hid (w7.heap[g5]? = some (.cells #[.string ft] 9 (0, 0))) := (bb.block _ (lt_heap rc5.out)).trans rc5.out
  obtain ⟨ao7, c7, e7⟩ := o7.form
  rw [List.length_map] at e7
  subst e7
  have hsz7 := hide bb.size
  clear o7 far7 b7 bb
  refine hK1.out _ _ ⟨by rw [cell_of_row _ _ 0 _ _ _ RB7.out]; rfl, str_cell R57.out⟩ (fun hH => ?_)
  clear hK1
  refine wpAnyH_take (i := 5) (v := .tuple #[.int .u64 (ep : Int), .slice ao7 L.length c7, .int .i64 0, .int .i64 0]) rfl (by kernel_rfl) (by kernel_rfl) (by kernel_rfl) (fun _ _ _ h => h) (yl_move (by rfl) _ (by rfl) _ (by rfl)) hH ?_
  change wpAnyH _ _ _ _ _ _ _ (Act.put _ (some 41) _) _
  simp only [Act.put, List.setIfInBounds_toArray, List.set_cons_zero, List.set_cons_succ]
  refine wpAnyH_take (i := 6) (v := .int .u64 (ep : Int)) rfl (by kernel_rfl) (by kernel_rfl) (by kernel_rfl) (fun _ _ _ h => h) (.inl ⟨by rfl, fun W _ => by go_simp⟩) hH ?_
  change wpAnyH _ _ _ _ _ _ _ (Act.put _ (some 47) _) _
  simp only [Act.put, List.setIfInBounds_toArray, List.set_cons_zero, List.set_cons_succ]
  refine wpAnyH_take (i := 7) (v := .slice ao7 L.length c7) rfl (by kernel_rfl) (by kernel_rfl) (by kernel_rfl) (fun _ _ _ h => h) (.inl ⟨by rfl, fun W _ => by go_simp⟩) hH ?_
  change wpAnyH _ _ _ _ _ _ _ (Act.put _ (some 48) _) _
  simp only [Act.put, List.setIfInBounds_toArray, List.set_cons_zero, List.set_cons_succ]
  refine wpAnyH_take (i := 8) (v := .int .i64 0) rfl (by kernel_rfl) (by kernel_rfl) (by kernel_rfl) (fun _ _ _ h => h) (.inl ⟨by rfl, fun W _ => by go_simp⟩) hH ?_
  change wpAnyH _ _ _ _ _ _ _ (Act.put _ (some 49) _) _
  simp only [Act.put, List.setIfInBounds_toArray, List.set_cons_zero, List.set_cons_succ]
  refine wpAnyH_take (i := 9) (v := .int .i64 0) rfl (by kernel_rfl) (by kernel_rfl) (by kernel_rfl) (fun _ _ _ h => h) (.inl ⟨by rfl, fun W _ => by go_simp⟩) hH ?_
  change wpAnyH _ _ _ _ _ _ _ (Act.put _ (some 50) _) _
  simp only [Act.put, List.setIfInBounds_toArray, List.set_cons_zero, List.set_cons_succ]
  refine wpAnyH_take (i := 10) (v := .pointer (some ⟨gj, 0, none⟩)) rfl (by kernel_rfl) (by kernel_rfl) (by kernel_rfl) (fun _ _ _ h => h) (.inl ⟨by rfl, fun W _ => by go_simp⟩) hH ?_
  change wpAnyH _ _ _ _ _ _ _ (Act.put _ (some 51) _) _
  simp only [Act.put, List.setIfInBounds_toArray, List.set_cons_zero, List.set_cons_succ]
  refine wpAnyH_take (i := 11) (v := .pointer (some ⟨gj, 2, none⟩)) rfl (by kernel_rfl) (by kernel_rfl) (by kernel_rfl) (fun _ _ _ h => h) (.inl ⟨by rfl, fun W _ => by go_simp⟩) hH ?_
  change wpAnyH _ _ _ _ _ _ _ (Act.put _ (some 52) _) _
  simp only [Act.put, List.setIfInBounds_toArray, List.set_cons_zero, List.set_cons_succ]
  have q12 := J7.out.c2
  have f12 := J7.out.fz 2
  have J8 := hide (J7.out.set 2 (.int .u64 (ep : Int)) (J' := ⟨nm, ep, [], 0, false⟩) rfl J7.out.own J7.out.vfar)
  have O7b : Hid (OX KS (w7.setCell ⟨gj, 2, none⟩ (.int .u64 (ep : Int))) (.slice ao7 L.length c7) (L.map txt) ∧ ∀ g, Value.ownBlock (.slice ao7 L.length c7) = some g → (K g ∨ B.heap.size ≤ g) ∧ ¬ T g ∧ g ≠ gj) := by
    have h1 : wc.drew.heap.size = wc.heap.size := rfl
    have h2 := JC.out.bel.size
    have h3 := JC.out.lt
    have hv : ∀ g, Value.ownBlock (.slice ao7 L.length c7) = some g → (K g ∨ B.heap.size ≤ g) ∧ ¬ T g ∧ g ≠ gj := fun g hg => by
      have h4 := O7.out.2 g hg
      refine ⟨.inr (by omega), fun e => ?_, by omega⟩
      have := JC.out.dk.lt _ e
      omega
    exact ⟨O7.out.1.of_block fun g hg => Below.heap_setCell _ _ _ _ (hv g hg).2.2, hv⟩
  have RB8 := hide ((Below.heap_setCell w7 ⟨gj, 2, none⟩ (.int .u64 (ep : Int)) _ hgb.out).trans RB7.out)
  have R58 := hide ((Below.heap_setCell w7 ⟨gj, 2, none⟩ (.int .u64 (ep : Int)) _ hg5.out).trans R57.out)
  have hs8 : (w7.setCell ⟨gj, 2, none⟩ (.int .u64 (ep : Int))).heap.size = w7.heap.size := by simp [World.setCell]
  refine wpAnyH_ready (rs := [12]) (by kernel_rfl) (by simp) (AllReadyH.cons rfl (fun K1 hK1 => ?_) AllReadyH.nil)
  go_simp
  refine hK1.out _ _ ⟨by rw [cell_of_row _ _ 0 _ _ _ RB8.out]; rfl, str_cell R58.out⟩ (fun hH => ?_)
  clear hK1 q12 f12
  generalize w7.setCell ⟨gj, 2, none⟩ (.int .u64 (ep : Int)) = w8 at *
  have O8 : Hid (OX KS w8 (.slice ao7 L.length c7) (L.map txt) ∧ ∀ g, Value.ownBlock (.slice ao7 L.length c7) = some g → (K g ∨ B.heap.size ≤ g) ∧ ¬ T g ∧ g ≠ gj) := O7b
  refine wpAnyH_take (i := 13) (v := .pointer (some ⟨gj, 0, none⟩)) rfl (by kernel_rfl) (by kernel_rfl) (by kernel_rfl) (fun _ _ _ h => h) (.inl ⟨by rfl, fun W _ => by go_simp⟩) hH ?_
  change wpAnyH _ _ _ _ _ _ _ (Act.put _ (some 53) _) _
  simp only [Act.put, List.setIfInBounds_toArray, List.set_cons_zero, List.set_cons_succ]
  refine wpAnyH_take (i := 14) (v := .pointer (some ⟨gj, 3, none⟩)) rfl (by kernel_rfl) (by kernel_rfl) (by kernel_rfl) (fun _ _ _ h => h) (.inl ⟨by rfl, fun W _ => by go_simp⟩) hH ?_
  change wpAnyH _ _ _ _ _ _ _ (Act.put _ (some 54) _) _
  simp only [Act.put, List.setIfInBounds_toArray, List.set_cons_zero, List.set_cons_succ]
  have q15 := J8.out.c3
  have f15 := J8.out.fz 3
  have J9 := hide (J8.out.set 3 (.slice ao7 L.length c7) (J' := ⟨nm, ep, L.map txt, 0, false⟩) rfl (.inl O8.out.1) O8.out.2)
  have RB9 := hide ((Below.heap_setCell w8 ⟨gj, 3, none⟩ (.slice ao7 L.length c7) _ hgb.out).trans RB8.out)
  have R59 := hide ((Below.heap_setCell w8 ⟨gj, 3, none⟩ (.slice ao7 L.length c7) _ hg5.out).trans R58.out)
  have hs9 : (w8.setCell ⟨gj, 3, none⟩ (.slice ao7 L.length c7)).heap.size = w8.heap.size := by simp [World.setCell]
  refine wpAnyH_ready (rs := [15]) (by kernel_rfl) (by simp) (AllReadyH.cons rfl (fun K1 hK1 => ?_) AllReadyH.nil)
  go_simp
  refine hK1.out _ _ ⟨by rw [cell_of_row _ _ 0 _ _ _ RB9.out]; rfl, str_cell R59.out⟩ (fun hH => ?_)
  clear hK1 q15 f15
  generalize w8.setCell ⟨gj, 3, none⟩ (.slice ao7 L.length c7) = w9 at *
  refine wpAnyH_take (i := 16) (v := .pointer (some ⟨gj, 0, none⟩)) rfl (by kernel_rfl) (by kernel_rfl) (by kernel_rfl) (fun _ _ _ h => h) (.inl ⟨by rfl, fun W _ => by go_simp⟩) hH ?_
  change wpAnyH _ _ _ _ _ _ _ (Act.put _ (some 55) _) _
  simp only [Act.put, List.setIfInBounds_toArray, List.set_cons_zero, List.set_cons_succ]
  refine wpAnyH_take (i := 17) (v := .pointer (some ⟨gj, 4, none⟩)) rfl (by kernel_rfl) (by kernel_rfl) (by kernel_rfl) (fun _ _ _ h => h) (.inl ⟨by rfl, fun W _ => by go_simp⟩) hH ?_
  change wpAnyH _ _ _ _ _ _ _ (Act.put _ (some 56) _) _
  simp only [Act.put, List.setIfInBounds_toArray, List.set_cons_zero, List.set_cons_succ]
  have q18 := J9.out.c4
  have f18 := J9.out.fz 4
  have J10 := hide (J9.out.set 4 (.int .i64 0) (J' := ⟨nm, ep, L.map txt, 0, false⟩) rfl J9.out.own J9.out.vfar)
  have RB10 := hide ((Below.heap_setCell w9 ⟨gj, 4, none⟩ (.int .i64 0) _ hgb.out).trans RB9.out)
  have R510 := hide ((Below.heap_setCell w9 ⟨gj, 4, none⟩ (.int .i64 0) _ hg5.out).trans R59.out)
  have hs10 : (w9.setCell ⟨gj, 4, none⟩ (.int .i64 0)).heap.size = w9.heap.size := by simp [World.setCell]
  refine wpAnyH_ready (rs := [18]) (by kernel_rfl) (by simp) (AllReadyH.cons rfl (fun K1 hK1 => ?_) AllReadyH.nil)
  go_simp
  refine hK1.out _ _ ⟨by rw [cell_of_row _ _ 0 _ _ _ RB10.out]; rfl, str_cell R510.out⟩ (fun hH => ?_)
  clear hK1 q18 f18
  generalize w9.setCell ⟨gj, 4, none⟩ (.int .i64 0) = w10 at *
  refine wpAnyH_take (i := 19) (v := .int .i64 0) rfl (by kernel_rfl) (by kernel_rfl) (by kernel_rfl) (fun _ _ _ h => h) (.inl ⟨by rfl, fun W _ => by go_simp⟩) hH ?_
  change wpAnyH _ _ _ _ _ _ _ (Act.put _ (some 6) _) _
  simp only [Act.put, List.setIfInBounds_toArray, List.set_cons_zero, List.set_cons_succ]
  refine wpAnyH_done (by kernel_rfl) ?_ _
  have k4 := J10.out.c4
  rw [show ((⟨nm, ep, L.map txt, 0, false⟩ : Jr).torn : Int) = 0 from rfl] at k4
  have k1 : w10.cell? ⟨w.heap.size, 0, none⟩ = some (.pointer (some ⟨gj, 0, none⟩)) := by rw [cell_of_row _ _ 0 _ _ _ RB10.out]; rfl
  have hb1 := bs1F w10
  have FIN : Hid (JB K B (w10.alloc (.cells #[fTidy w.heap.size] 66)) gj gd ⟨nm, ep, L.map txt, 0, false⟩ x T (.slice ao7 L.length c7) ∧ Ex (w10.alloc (.cells #[fTidy w.heap.size] 66)) T [(w.heap.size, boxJ gj), (w10.heap.size, .cells #[fTidy w.heap.size] 66)]) := by
    have b2 : Below w10.heap.size w10 (w10.alloc (.cells #[fTidy w.heap.size] 66)) := (Below.refl _ _).alloc (Nat.le_refl _) _
    have lt := J10.out.dk.lt
    refine ⟨J10.out.next b2, fun p hp => ?_⟩
    rcases List.mem_cons.1 hp with rfl | hp
    · exact ⟨(b2.block _ (lt_heap RB10.out)).trans RB10.out, HT.out⟩
    · rcases List.mem_cons.1 hp with rfl | hp
      · refine ⟨heap_alloc_last w10 _, fun e => ?_⟩
        have h1 := lt _ e
        simp only [] at h1
        omega
      · cases hp
  unfold fTidy at FIN
  clear hs8 hs9 hs10 J7 J8 J9 JC O7 O8 O7b RB7 RB8 RB9 R57 R58 R59 k3
  go_wp2
  go_ret2
  exact ⟨_, _, rfl, ⟨_, FIN.out.1⟩, FIN.out.2⟩
variable {K : Nat → Prop} {B w : World} {gj gd : Nat} {J : Jr} {x : StD} {T : Nat → Prop} {v : Value}
theorem order_tidy {gb gs : Nat} (h : JB K B w gj gd J x T v) (he : Ex w T [(gb, boxJ gj), (gs, .cells #[fTidy gb] 66)]) (hn : okJ J.nm = true) (ha : fnd x (asideN J.nm) = 2) : Calls Tryz.prog 17 #[.slice (some ⟨gs, 0, none⟩) 1 1] w fun e w' => e = .returned (.int .i64 0) ∧ JB K B w' gj gd J x T v := by
  refine (inOrder_any 1 gs 1 FO (faO gd) (caO gb) (fun k W => JB K B W gj gd J x T v ∧ Ex W T [(gb, boxJ gj), (gs, .cells #[fTidy gb] 66)]) (fun _ _ => False) (by decide) (fun k W hk => ?_) (fun k W hk hP => ?_) (fun k W hk hP => ?_) w ⟨h, he⟩).mono ?_
  · rcases k with _ | k
    · kernel_rfl
    · omega
  · obtain rfl : k = 0 := by omega
    have hr := hP.2.at_ (p := (gs, .cells #[fTidy gb] 66)) (by simp)
    rw [cell_of_row _ _ _ _ _ _ hr]
    rfl
  · obtain rfl : k = 0 := by omega
    have hbx := hP.2 (gb, boxJ gj) (by simp)
    refine (tidy_none hP.1 hbx.1 (okJ_size hn) ha).mono ?_
    rintro e w' ⟨rfl, b⟩
    exact ⟨0, rfl, fun _ => ⟨hP.1.next b, hP.2.next b⟩, fun e => absurd rfl e⟩
  · rintro e w' (⟨rfl, j, _⟩ | ⟨E, _, _, hF⟩)
    · exact ⟨rfl, j⟩
    · exact hF.elim
theorem open_again (h : DBk K B w gd x T) (nm : ByteArray) (hK : KB K B) (hn : okJ nm = true) (hf : fnd x nm = 0) (ha : fnd x (asideN nm) = 2) {ep : Nat} (he : U64 ep) (L : List (List UInt8)) (hat : x.now.at (ls nm) = fileL ep L) (hL : ∀ s ∈ L, s.length ≤ 65536) (hb : flen L ≤ 16777216) : Calls Tryz.prog 6 #[.pointer (some ⟨gd, 0, none⟩), .string nm] w fun e w' => ∃ gj v', e = .returned (.tuple #[.pointer (some ⟨gj, 0, none⟩), .int .i64 0]) ∧ JB K B w' gj gd ⟨nm, ep, L.map txt, 0, false⟩ x T v' := by
  have HI := hide (isNameJ_any nm (by have := okJ_size hn; unfold maxLen; omega) w)
  have HL := hide fun gj W j => load_file (w := W) (gj := gj) (gd := gd) (T := T) (x := x) (K := K) (B := B) (nm := nm) j hK (okJ_size hn) hf he L hat hL hb
  have HO := hide fun gj gb gs W v' (j : JB K B W gj gd ⟨nm, ep, L.map txt, 0, false⟩ x T v') ex => order_tidy (gb := gb) (gs := gs) j ex hn ha
  have HN := hide fun W (b : Below w.heap.size w W) => jb_new (h.next b) nm
  rw [hn] at HI
  clear h hf ha hn hK he hat hL hb
  go_enter Tryz.func6, Tryz.ntmps6
  go_upto_region 6 with (go_at_call 15; refine HI.out.mono ?_; rintro e w1 ⟨rfl, hb⟩; have HB := hide hb; clear hb)
  have J1 := hide (HN.out w1 HB.out)
  clear HN
  generalize w1.alloc (.cells #[.pointer (some ⟨gd, 0, none⟩), .string nm, .int .u64 0, .slice none 0 0, .int .i64 0, .bool false] 58) = W2 at *
  generalize w1.heap.size = gj at *
  go_wp2_with (first | (go_at_call 16; refine (HL.out _ _ J1.out).mono ?_; rintro e w3 ⟨gb, gs, v3, rfl, j3, e3⟩; have J3 := hide (And.intro j3 e3); clear j3 e3) | (go_at_call 17; refine (HO.out _ _ _ _ _ J3.out.1 J3.out.2).mono ?_; rintro e w4 ⟨rfl, j4⟩; have J4 := hide j4; clear j4))
  go_ret2
  exact ⟨_, _, rfl, J4.out⟩
end
end Go.Proofs.YtgncphoaknffnaaGreatDoor
namespace Go.Proofs.YtgncphoaknffnaaGreatDoor
open Go.RowKit
open Go.Deep
open Go.Lib
set_option linter.unusedVariables false
section
set_option maxRecDepth 10000
set_option maxHeartbeats 2000000
theorem rfileJ_any (ep : Nat) (he : U64 ep) (L : List ByteArray) (v : Value) (w : World) (hv : LX KS w v L) (hb : flen (dl L) ≤ 1099511627776) (hz : ∀ s ∈ L, s.size ≤ 65536) : Calls Tryz.prog 26 #[.int .u64 ep, v] w fun e w' => e = .returned (.string (txt (fileL ep (dl L)))) ∧ Below w.heap.size w w' := by
  have HV := hide hv
  obtain ⟨ao, cc, rfl⟩ := hv.form
  have HB := hide hb
  have HZ := hide hz
  have HH := hide fun W => rheadJ_any ep he W
  have h16 : 16 * L.length ≤ flen (dl L) := by
    clear hv HV hb HB HZ hz
    unfold flen
    induction L with
    | nil => simp
    | cons a r ih =>
      simp only [dl, List.map_cons, List.sum_cons, List.length_cons] at ih ⊢
      omega
  have HR := hide fun W (k : Nat) (hk : U64 k) (s : ByteArray) (hs : s.size ≤ 65536) => rrecJ_any ep k he hk s hs W
  have zh : (txt (headL ep)).size = 20 := by rw [txtJ_size, headL_len]
  clear hv hb hz
  go_enter Tryz.func26, Tryz.ntmps26
  go_upto_region 3 with (go_at_call 51; refine (HH.out _).mono ?_; rintro e w1 ⟨rfl, b1⟩; have B1 := hide b1; clear b1)
  go_loopw [5, 12] (fun t i wr => ∃ k : Nat, k ≤ L.length ∧ i = .int .i64 (k : Int) ∧ t = .string (txt (fileL ep (dl (L.take k)))) ∧ Hid (Below w.heap.size w wr)) (fun t i _ => (L.length - intOf i).toNat)
  case atStart => exact ⟨0, Nat.zero_le _, rfl, by rw [show fileL ep (dl (L.take 0)) = headL ep by show headL ep ++ [] = _; rw [List.append_nil]], B1⟩
  case round =>
    clear B1 HH
    obtain ⟨k, hk, rfl, rfl, BL⟩ := hrel
    by_cases hlt : k < L.length
    · obtain ⟨s, hs⟩ : ∃ s, L[k]? = some s := ⟨_, List.getElem?_eq_getElem hlt⟩
      obtain ⟨g, off, rfl⟩ := HV.out.base (by omega)
      have hc := (HV.out.below BL.out).cellS k s hs
      have h1 : (0 : Int) ≤ (k : Int) := by omega
      have h2 : (k : Int) < L.length := by omega
      have hb := HB.out
      have hz := HZ.out s (List.mem_of_getElem? hs)
      have e1 : IntKind.i64.wrap ((k : Int) + 1) = k + 1 := wrapI _ (by omega) (by omega)
      have e2 : IntKind.u64.wrap (k : Int) = (k : Int) := wrapu _ (by omega) (by omega)
      have HK := hide (HR.out wr k (by unfold U64; omega) s hz)
      have hsl : s.data.toList.length = s.size := by simp
      have z1 : (txt (fileL ep (dl (L.take k)))).size ≤ 1099511627776 := by
        have fl := flen_le (dl L) k
        rw [← dl_take, ← fileL_len ep] at fl
        rw [txtJ_size]
        omega
      have z2 : (txt (recL ep k s.data.toList)).size ≤ 65552 := by rw [txtJ_size, recL_len]; omega
      have hap : txt (fileL ep (dl (L.take k))) ++ txt (recL ep k s.data.toList) = txt (fileL ep (dl (L.take (k + 1)))) := by rw [txtJ_app, file_next ep L k s hs]
      generalize txt (fileL ep (dl (L.take k))) = t1 at *
      generalize txt (recL ep k s.data.toList) = t2 at *
      clear hs hsl hb hz
      go_wp2_with (go_at_call 52; refine HK.out.mono ?_; rintro e w2 ⟨rfl, b2⟩; have B2 := hide (below_next BL.out b2); clear b2)
      go_roundw
      case rel => exact ⟨k + 1, by omega, by go_num, rfl, B2⟩
      case measure => simp [intOf]; omega
    · have h2 : ¬ (k : Int) < L.length := by omega
      rw [show L.take k = L from List.take_of_length_le (by omega)]
      go_wp2
      go_ret
      exact ⟨rfl, BL.out⟩
end
end Go.Proofs.YtgncphoaknffnaaGreatDoor
namespace Go.Proofs.YtgncphoaknffnaaGreatDoor
open Go.RowKit
open Go.Deep
open Go.Lib
set_option linter.unusedVariables false
def logN : ByteArray := ⟨#[108, 111, 103]⟩
theorem okLog : okJ logN = true := by decide +kernel
theorem log_ne : ls (asideN logN) ≠ ls logN := by decide +kernel
/-- A disk that holds a journal's file and nothing else. -/
structure Ds (x : StD) (ep : Nat) (L : List ByteArray) (c : Nat) : Prop where
  vd : Vd x
  plan : x.plan = []
  live : x.dead = false
  file : x.now.get (ls logN) = some (fileL ep (dl L))
  none_ : x.now.get (ls (asideN logN)) = none
  n : x.now.n = 1
  loose : x.loose.length ≤ c
  made : x.made ≤ 2 * c + 1
  many : L.length ≤ c
  epo : ep ≤ c
  short : ∀ s ∈ L, s.size ≤ 65536
section
variable {x : StD} {ep c : Nat} {L : List ByteArray}
theorem flen_bound (L : List ByteArray) (h : ∀ s ∈ L, s.size ≤ 65536) : flen (dl L) ≤ 20 + L.length * 65552 := by
  unfold flen
  induction L with
  | nil => simp [dl]
  | cons a r ih =>
    have h1 := h a (by simp)
    have h2 := ih fun s hs => h s (by simp [hs])
    have h3 : a.data.toList.length = a.size := by simp
    simp only [dl, List.map_cons, List.sum_cons, List.length_cons] at h2 ⊢
    omega
theorem Ds.fl (h : Ds x ep L c) : flen (dl L) ≤ 20 + c * 65552 := by
  exact Nat.le_trans (flen_bound L h.short) (Nat.add_le_add_left (Nat.mul_le_mul_right _ h.many) _)
theorem Ds.at_ (h : Ds x ep L c) : x.now.at (ls logN) = fileL ep (dl L) := by
  unfold FS.at
  rw [h.file]
  rfl
theorem Ds.some_ (h : Ds x ep L c) : (x.now.get (ls logN)).isSome = true := by
  rw [h.file]
  rfl
theorem Ds.rdy (h : Ds x ep L c) : rdy x.dead [logN] = 0 := rdyJ h.live okLog
theorem Ds.fnd (h : Ds x ep L c) : fnd x logN = 0 := by
  unfold Go.Proofs.YtgncphoaknffnaaGreatDoor.fnd
  rw [h.rdy, h.some_]
  rfl
theorem Ds.fndA (h : Ds x ep L c) : Go.Proofs.YtgncphoaknffnaaGreatDoor.fnd x (asideN logN) = 2 := by
  unfold Go.Proofs.YtgncphoaknffnaaGreatDoor.fnd Go.Proofs.YtgncphoaknffnaaGreatDoor.rdy
  rw [h.none_, h.live]
  simp [aside_name okLog]
theorem Ds.more (h : Ds x ep L c) : Ds x ep L (c + 1) := ⟨h.vd, h.plan, h.live, h.file, h.none_, h.n, by have := h.loose; omega, by have := h.made; omega, by have := h.many; omega, by have := h.epo; omega, h.short⟩
theorem Ds.add (h : Ds x ep L c) (hc : c < 60) (s : ByteArray) (hs : s.size ≤ 65536) : Ds (mkC x (wrC logN (x.now.at (ls logN)).length (txt (recL ep L.length s.data.toList)))) ep (L ++ [s]) (c + 1) := by
  have fl := h.fl
  have hsl : s.data.toList.length = s.size := by simp
  have e : (mkC x (wrC logN (x.now.at (ls logN)).length (txt (recL ep L.length s.data.toList)))).now = x.now.put (ls logN) (fileL ep (dl (L ++ [s]))) := by
    show x.now.put (ls logN) (wr8 (x.now.at (ls logN)) (x.now.at (ls logN)).length (recL ep L.length s.data.toList)) = _
    rw [h.at_]
    congr 1
    unfold wr8
    rw [List.take_length, List.drop_of_length_le (by omega), List.append_nil, dl_app]
    show _ = fileL ep (dl L ++ [s.data.toList])
    rw [fileL_snoc, dl_len]
  refine ⟨h.vd.mkC (wr_ok h.vd.bd (okJ_name okLog) (Nat.le_refl _) (by rw [h.at_, fileL_len, txtJ_size, recL_len]; omega) (.inl h.some_)) (by have := h.loose; omega) (by have := h.made; omega), h.plan, h.live, ?_, ?_, ?_, ?_, ?_, ?_, by have := h.epo; omega, ?_⟩
  · rw [e, FS.put_get, if_pos rfl]
  · rw [e, FS.put_get, if_neg log_ne]
    exact h.none_
  · rw [e]
    show (if (x.now.get (ls logN)).isSome then x.now.n else x.now.n + 1) = 1
    rw [if_pos h.some_]
    exact h.n
  · show (x.loose ++ [_]).length ≤ c + 1
    rw [List.length_append]
    have := h.loose
    simp
    omega
  · show x.made + 1 ≤ _
    have := h.made
    omega
  · rw [List.length_append]
    have := h.many
    simp
    omega
  · intro t ht
    rcases List.mem_append.1 ht with ht | ht
    · exact h.short t ht
    · rw [List.mem_singleton.1 ht]
      exact hs
theorem Ds.sync (h : Ds x ep L c) : Ds (syC x) ep L c := ⟨h.vd.syC, h.plan, h.live, h.file, h.none_, h.n, Nat.zero_le _, h.made, h.many, h.epo, h.short⟩
theorem Ds.cut (h : Ds x ep L c) (hc : c < 60) (n : Nat) (hn : n ≤ L.length) : Ds (mkC x (ctC logN (flen (dl (L.take n))))) ep (L.take n) (c + 1) := by
  have hk : flen (dl (L.take n)) ≤ (x.now.at (ls logN)).length := by
    rw [h.at_, fileL_len, dl_take]
    exact flen_le _ _
  have e : (mkC x (ctC logN (flen (dl (L.take n))))).now = x.now.put (ls logN) (fileL ep (dl (L.take n))) := by
    show x.now.put (ls logN) ((x.now.at (ls logN)).take (flen (dl (L.take n)))) = _
    rw [h.at_, dl_take, fileL_take]
  refine ⟨h.vd.mkC (ct_ok h.vd.bd (okJ_name okLog) hk h.some_) (by have := h.loose; omega) (by have := h.made; omega), h.plan, h.live, ?_, ?_, ?_, ?_, ?_, ?_, by have := h.epo; omega, fun s hs => h.short s (List.mem_of_mem_take hs)⟩
  · rw [e, FS.put_get, if_pos rfl]
  · rw [e, FS.put_get, if_neg log_ne]
    exact h.none_
  · rw [e]
    show (if (x.now.get (ls logN)).isSome then x.now.n else x.now.n + 1) = 1
    rw [if_pos h.some_]
    exact h.n
  · show (x.loose ++ [_]).length ≤ c + 1
    rw [List.length_append]
    have := h.loose
    simp
    omega
  · show x.made + 1 ≤ _
    have := h.made
    omega
  · rw [List.length_take]
    have := h.many
    omega
theorem Ds.wa (h : Ds x ep L c) (hc : c < 60) (ft : ByteArray) (hf : ft.size ≤ 16777216) : Wa x logN ft := ⟨h.vd, h.plan, h.live, okLog, h.none_, by rw [h.n]; decide, hf, by have := h.loose; omega, by have := h.made; omega⟩
theorem Ds.renew (h : Ds x ep L c) (hc : c < 60) (R : List ByteArray) (hR : ∀ s ∈ R, s.size ≤ 65536) (hm : R.length ≤ c + 1) : Ds (xsW x logN (txt (fileL (ep + 1) (dl R))) 5) (ep + 1) R (c + 1) := by
  have fb := flen_bound R hR
  have hw : Wa x logN (txt (fileL (ep + 1) (dl R))) := h.wa hc _ (by rw [txtJ_size, fileL_len]; omega)
  have e : (xsW x logN (txt (fileL (ep + 1) (dl R))) 5).now = ((x.now.put (ls (asideN logN)) (fileL (ep + 1) (dl R))).del (ls (asideN logN))).put (ls logN) (fileL (ep + 1) (dl R)) := by
    show ((x.now.put (ls (asideN logN)) (wr8 (x.now.at (ls (asideN logN))) 0 (fileL (ep + 1) (dl R)))).del (ls (asideN logN))).put (ls logN) ((x.now.put (ls (asideN logN)) (wr8 (x.now.at (ls (asideN logN))) 0 (fileL (ep + 1) (dl R)))).at (ls (asideN logN))) = _
    have ha : x.now.at (ls (asideN logN)) = [] := by
      unfold FS.at
      rw [h.none_]
      rfl
    rw [ha, show wr8 [] 0 (fileL (ep + 1) (dl R)) = fileL (ep + 1) (dl R) by simp [wr8], at_put, if_pos rfl]
  refine ⟨hw.v4.syC, h.plan, h.live, ?_, ?_, ?_, Nat.zero_le _, ?_, hm, by have := h.epo; omega, hR⟩
  · rw [e, FS.put_get, if_pos rfl]
  · rw [e, FS.put_get, if_neg log_ne, FS.del_get, if_pos rfl]
  · rw [e]
    have n1 : (x.now.put (ls (asideN logN)) (fileL (ep + 1) (dl R))).n = 2 := by
      show (if (x.now.get (ls (asideN logN))).isSome then x.now.n else x.now.n + 1) = 2
      rw [h.none_, h.n]
      rfl
    have g1 : ((x.now.put (ls (asideN logN)) (fileL (ep + 1) (dl R))).get (ls (asideN logN))).isSome = true := by
      rw [FS.put_get, if_pos rfl]
      rfl
    have n2 : ((x.now.put (ls (asideN logN)) (fileL (ep + 1) (dl R))).del (ls (asideN logN))).n = 1 := by
      show (if ((x.now.put (ls (asideN logN)) (fileL (ep + 1) (dl R))).get (ls (asideN logN))).isSome then (x.now.put (ls (asideN logN)) (fileL (ep + 1) (dl R))).n - 1 else (x.now.put (ls (asideN logN)) (fileL (ep + 1) (dl R))).n) = 1
      rw [if_pos g1, n1]
    have g2 : (((x.now.put (ls (asideN logN)) (fileL (ep + 1) (dl R))).del (ls (asideN logN))).get (ls logN)).isSome = true := by
      rw [FS.del_get, if_neg (fun e => log_ne e.symm), FS.put_get, if_neg (fun e => log_ne e.symm)]
      exact h.some_
    show (if (((x.now.put (ls (asideN logN)) (fileL (ep + 1) (dl R))).del (ls (asideN logN))).get (ls logN)).isSome then ((x.now.put (ls (asideN logN)) (fileL (ep + 1) (dl R))).del (ls (asideN logN))).n else ((x.now.put (ls (asideN logN)) (fileL (ep + 1) (dl R))).del (ls (asideN logN))).n + 1) = 1
    rw [if_pos g2, n2]
  · show x.made + 1 + 1 ≤ _
    have := h.made
    omega
theorem Ds.fresh : Ds (xo logN) 0 [] 0 := by
  refine ⟨vd_xo okLog, rfl, rfl, ?_, ?_, rfl, Nat.zero_le _, Nat.le_refl _, Nat.zero_le _, Nat.zero_le _, fun s hs => by simp at hs⟩
  · show ((mkC x0 (bgC logN)).now.get (ls logN)) = _
    rw [bg_now, FS.put_get, if_pos rfl]
    show some (wr8 [] 0 (headL 0)) = some (headL 0 ++ [])
    simp [wr8]
  · show ((mkC x0 (bgC logN)).now.get (ls (asideN logN))) = _
    rw [bg_now, FS.put_get, if_neg log_ne]
    rfl
end
/-- A list of the law's own, apart from a journal and its disk. -/
structure MU (w : World) (T : Nat → Prop) (gj : Nat) (v u : Value) (L : List ByteArray) : Prop where
  lx : LX KS w u L
  far : ∀ g, u.ownBlock = some g → g < w.heap.size ∧ ¬ T g ∧ g ≠ gj ∧ v.ownBlock ≠ some g
  fm : (u = .slice none 0 0 ∧ L = []) ∨ ∃ g c, u = .slice (some ⟨g, 0, none⟩) L.length c ∧ L.length ≤ c
section
variable {K : Nat → Prop} {B w w' : World} {gj gj' gd : Nat} {J J' : Jr} {x x' : StD} {T T' : Nat → Prop} {v v' u : Value} {L : List ByteArray}
/-- The blocks of a journal and its disk. -/
def js (T : Nat → Prop) (gj : Nat) (v : Value) : Nat → Prop := fun g => T g ∨ g = gj ∨ v.ownBlock = some g
theorem JB.back (h : JB K B w gj gd J x T v) (h' : JB (js T gj v) w w' gj' gd J' x' T' v') : JB K B w' gj' gd J' x' T' v' := by
  have hs : ∀ g, js T gj v g → K g ∨ B.heap.size ≤ g := fun g hg => by
    rcases hg with hg | rfl | hg
    · exact h.far g hg
    · exact h.jfar
    · exact (h.vfar g hg).1
  have up : ∀ g, js T gj v g ∨ w.heap.size ≤ g → K g ∨ B.heap.size ≤ g := fun g hg => by
    rcases hg with hg | hg
    · exact hs g hg
    · exact .inr (Nat.le_trans h.bel.size hg)
  exact ⟨h'.dk, h.bel.far h'.bel hs, fun g hg => up g (h'.far g hg), h'.row, h'.own, up _ h'.jfar, h'.jT, fun g hg => ⟨up g (h'.vfar g hg).1, (h'.vfar g hg).2⟩⟩
theorem MU.next (h : MU w T gj v u L) (b : Below w.heap.size w w') : MU w' T gj v u L := ⟨h.lx.below b, fun g hg => ⟨Nat.lt_of_lt_of_le (h.far g hg).1 b.size, (h.far g hg).2⟩, h.fm⟩
theorem MU.over (h : MU w T gj v u L) (h' : JB (js T gj v) w w' gj' gd J' x' T' v') : MU w' T' gj' v' u L := by
  have hn : ∀ g, u.ownBlock = some g → ¬ js T gj v g := fun g hg => by
    obtain ⟨_, h1, h2, h3⟩ := h.far g hg
    rintro (e | e | e)
    · exact h1 e
    · exact h2 e
    · exact h3 e
  refine ⟨h.lx.fr hn h'.bel, fun g hg => ?_, h.fm⟩
  have h0 := (h.far g hg).1
  have h1 := hn g hg
  refine ⟨Nat.lt_of_lt_of_le h0 h'.bel.size, fun e => ?_, fun e => ?_, fun e => ?_⟩
  · rcases h'.far g e with c | c
    · exact h1 c
    · omega
  · rcases h'.jfar with c | c
    · exact h1 (e ▸ c)
    · omega
  · rcases (h'.vfar g e).1 with c | c
    · exact h1 c
    · omega
/-- A list that is made behind a journal's last change. -/
theorem MU.made (h : JB K B w gj gd J x T v) (o : OX KS w' u L) (b : Below w.heap.size w w') (hf : ∀ g, u.ownBlock = some g → w.heap.size ≤ g) : MU w' T gj v u L := by
  refine ⟨o.read, fun g hg => ⟨o.lt g hg, fun e => ?_, ?_, fun e => ?_⟩, ?_⟩
  rotate_right
  · rcases o.2 with ⟨rfl, h0⟩ | ⟨g, cap, cur, rfl, _, _, hn, _⟩
    · exact .inl ⟨rfl, List.eq_nil_of_length_eq_zero h0⟩
    · exact .inr ⟨g, cap, rfl, hn⟩
  · have := h.dk.lt _ e
    have := hf g hg
    omega
  · have := h.lt
    have := hf g hg
    omega
  · have := h.own.lt _ e
    have := hf g hg
    omega
end
end Go.Proofs.YtgncphoaknffnaaGreatDoor
namespace Go.Proofs.YtgncphoaknffnaaGreatDoor
open Go.RowKit
open Go.Deep
open Go.Lib
set_option linter.unusedVariables false
section
set_option maxRecDepth 10000
set_option maxHeartbeats 1000000
theorem same_yes (L : List ByteArray) (v u : Value) (w : World) (hv : LX KS w v L) (hu : LX KS w u L) (hl : L.length ≤ 140737488355328) : Calls Tryz.prog 12 #[v, u] w fun e w' => e = .returned (.bool true) ∧ ∃ n, w' = w.drewN n := by
  have HV := hide hv
  have HU := hide hu
  obtain ⟨ao, c1, rfl⟩ := hv.form
  obtain ⟨bo, c2, rfl⟩ := hu.form
  clear hv hu
  go_enter Tryz.func12, Tryz.ntmps12
  go_upto_region 4 with fail
  go_loopw [13] (fun i wr => ∃ k : Nat, k ≤ L.length ∧ i = .int .i64 (k : Int) ∧ ∃ n, wr = w.drewN n) (fun i _ => (L.length - intOf i).toNat)
  case atStart => exact ⟨0, Nat.zero_le _, rfl, 0, rfl⟩
  case round =>
    obtain ⟨k, hk, rfl, nq, rfl⟩ := hrel
    by_cases hlt : k < L.length
    · obtain ⟨g, off, rfl⟩ := HV.out.base (by omega)
      obtain ⟨g', off', rfl⟩ := HU.out.base (by omega)
      have h1 : (0 : Int) ≤ (k : Int) := by omega
      have h2 : (k : Int) < L.length := by omega
      have r1 := HV.out.range k hlt 0 (.string L[k]) rfl
      have r2 := HU.out.range k hlt 0 (.string L[k]) rfl
      rw [show off + k * KS.k + 0 = off + k by show off + k * 1 + 0 = _; omega] at r1
      rw [show off' + k * KS.k + 0 = off' + k by show off' + k * 1 + 0 = _; omega] at r2
      have hq : ((L[k]).toList == (L[k]).toList) = true := by simp
      have e1 : IntKind.i64.wrap ((k : Int) + 1) = k + 1 := wrapI _ (by omega) (by omega)
      generalize L[k] = x at *
      go_upto_region 6 with fail
      go_region
      go_wp2
      go_roundw
      case rel => exact ⟨k + 1, by omega, by go_num, nq + 1, rfl⟩
      case measure => simp [intOf]; omega
    · have h2 : ¬ (k : Int) < L.length := by omega
      go_wp2
      go_ret
      exact ⟨rfl, nq, rfl⟩
end
end Go.Proofs.YtgncphoaknffnaaGreatDoor
