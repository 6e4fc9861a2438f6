/- Disks: strikes, whatever the plan is. -/
import Derived.Test.YtppooipamibhoaaGreatDoorX17
namespace Go.Proofs.YtppooipamibhoaaGreatDoor
open Go.RowKit
open Go.Deep
open Go.Lib
set_option linter.unusedVariables false
section
set_option maxRecDepth 10000
set_option maxHeartbeats 4000000
theorem strikes_no (gd : Nat) (x : StD) (T : Nat → Prop) (b : Bool) (w : World) (h : DK w gd x T) (hn : fstF x.made b x.plan = -1) (hl : x.plan.length ≤ 4611686018427387904) : Calls Tryz.prog 197 #[.pointer (some ⟨gd, 0, none⟩), .bool b] w fun e w' => e = .returned (.bool false) ∧ Below w.heap.size w w' := by
  obtain ⟨S1, S2, mn, ms, vo, vp, h⟩ := h
  have hox : OX KFl w vp x.plan := by
    have := h.plan
    rw [fls_flat] at this
    exact this
  obtain ⟨ao, cap, rfl⟩ := hox.form
  have hB : Below w.heap.size w ((w.alloc (.cells #[.pointer (some ⟨gd, 0, none⟩)] 96)).alloc (.cells #[.bool b] 4)) := ((Below.refl _ _).alloc (Nat.le_refl _) _).alloc (by simp) _
  have e1 := heap_alloc_last w (.cells #[.pointer (some ⟨gd, 0, none⟩)] 96)
  have r1 := (Below.heap_alloc _ (.cells #[.bool b] 4) _ (lt_heap e1)).trans e1
  have r2 := heap_alloc_last (w.alloc (.cells #[.pointer (some ⟨gd, 0, none⟩)] 96)) (.cells #[.bool b] 4)
  rw [show (w.alloc (.cells #[.pointer (some ⟨gd, 0, none⟩)] 96)).heap.size = w.heap.size + 1 by simp] at r2
  have c4 := (h.below hB).cell 4 (by decide)
  rw [show dc mn ms vo (.slice ao x.plan.length cap) x.made x.dead 4 = .slice ao x.plan.length cap from rfl] at c4
  have c3 := (h.below hB).cell 3 (by decide)
  have HB := hide hB
  have g1 : ((w.alloc (.cells #[.pointer (some ⟨gd, 0, none⟩)] 96)).alloc (.cells #[.bool b] 4)).cell? ⟨w.heap.size, 0, none⟩ = some (.pointer (some ⟨gd, 0, none⟩)) := by rw [cell_of_row _ _ _ _ _ _ r1]; rfl
  have g2 : ((w.alloc (.cells #[.pointer (some ⟨gd, 0, none⟩)] 96)).alloc (.cells #[.bool b] 4)).cell? ⟨w.heap.size + 1, 0, none⟩ = some (.bool b) := by rw [cell_of_row _ _ _ _ _ _ r2]; rfl
  have HI := hide (index_any x.plan (.slice ao x.plan.length cap) w.heap.size (w.heap.size + 1) gd x.made b _ (hox.read.below hB) hl g1 g2 c3 (lt_heap r1) (lt_heap r2) (Nat.lt_of_lt_of_le (h.lt gd h.tg) hB.size))
  rw [hn] at HI
  clear h hB hox r1 r2 e1 c3 g2 hn hl
  go_enter Tryz.func197, Tryz.ntmps197
  go_wp2_with (go_at_call 269; refine HI.out.mono ?_; rintro e w1 ⟨rfl, hw⟩; have B1 := hide (below_next HB.out hw); clear hw)
  go_ret
  exact ⟨rfl, B1.out⟩
theorem strikes_yes (gd : Nat) (x : StD) (T : Nat → Prop) (b : Bool) (w : World) (h : DK w gd x T) (hV : Vd x) (i : Nat) (f : Fl) (hf : x.plan[i]? = some f) (hn : fstF x.made b x.plan = (i : Int)) (hl : x.plan.length ≤ 4611686018427387904) (hk1 : -9223372036854775808 ≤ f.keep) (hk2 : f.keep < 9223372036854775808) : Calls Tryz.prog 197 #[.pointer (some ⟨gd, 0, none⟩), .bool b] w fun e w' => e = .returned (.bool true) ∧ DK w' gd (flC { x with plan := x.plan.eraseIdx i } f.keep f.torn) (grow T w w') ∧ Fr T w w' := by
  obtain ⟨S1, S2, mn, ms, vo, vp, h⟩ := h
  have hi : i < x.plan.length := (List.getElem?_eq_some_iff.1 hf).1
  have hox : OX KFl w vp x.plan := by
    have := h.plan
    rw [fls_flat] at this
    exact this
  obtain ⟨ao, cap, rfl⟩ := hox.form
  obtain ⟨gp, op, rfl⟩ := hox.read.base (by omega)
  have ho : op = 0 := by
    rcases hox.2 with ⟨h0, _⟩ | ⟨g', cap', cur, hv, _⟩
    · cases h0
    · cases hv
      rfl
  subst ho
  have hB : Below w.heap.size w ((w.alloc (.cells #[.pointer (some ⟨gd, 0, none⟩)] 96)).alloc (.cells #[.bool b] 4)) := ((Below.refl _ _).alloc (Nat.le_refl _) _).alloc (by simp) _
  have e1 := heap_alloc_last w (.cells #[.pointer (some ⟨gd, 0, none⟩)] 96)
  have r1 := (Below.heap_alloc _ (.cells #[.bool b] 4) _ (lt_heap e1)).trans e1
  have r2 := heap_alloc_last (w.alloc (.cells #[.pointer (some ⟨gd, 0, none⟩)] 96)) (.cells #[.bool b] 4)
  rw [show (w.alloc (.cells #[.pointer (some ⟨gd, 0, none⟩)] 96)).heap.size = w.heap.size + 1 by simp] at r2
  have c4 := (h.below hB).cell 4 (by decide)
  rw [show dc mn ms vo (.slice (some ⟨gp, 0, none⟩) x.plan.length cap) x.made x.dead 4 = .slice (some ⟨gp, 0, none⟩) x.plan.length cap from rfl] at c4
  have c3 := (h.below hB).cell 3 (by decide)
  have g1 : ((w.alloc (.cells #[.pointer (some ⟨gd, 0, none⟩)] 96)).alloc (.cells #[.bool b] 4)).cell? ⟨w.heap.size, 0, none⟩ = some (.pointer (some ⟨gd, 0, none⟩)) := by rw [cell_of_row _ _ _ _ _ _ r1]; rfl
  have g2 : ((w.alloc (.cells #[.pointer (some ⟨gd, 0, none⟩)] 96)).alloc (.cells #[.bool b] 4)).cell? ⟨w.heap.size + 1, 0, none⟩ = some (.bool b) := by rw [cell_of_row _ _ _ _ _ _ r2]; rfl
  have HI := hide (index_any x.plan (.slice (some ⟨gp, 0, none⟩) x.plan.length cap) w.heap.size (w.heap.size + 1) gd x.made b _ (hox.read.below hB) hl g1 g2 c3 (lt_heap r1) (lt_heap r2) (Nat.lt_of_lt_of_le (h.lt gd h.tg) hB.size))
  rw [hn] at HI
  have LG := hide (And.intro (h.lt gd h.tg) (And.intro (h.lt gp (h.tp gp rfl)) (h.p1 gp rfl).2.2))
  have HB := hide hB
  have D0 := hide (h.below hB)
  have R1 := hide r1
  have HV := hide hV
  have hl' : (x.plan.length : Int) ≤ 4611686018427387904 := by omega
  have k0 : (0 : Int) ≤ (i : Int) := by omega
  have k1 : (i : Int) < (x.plan.length : Int) := by omega
  have k2 : ¬ (i : Int) < 0 := by omega
  have e2 : IntKind.i64.wrap ((i : Int) + 1) = (i : Int) + 1 := wrapI _ (by omega) (by omega)
  have HF := hide hf
  have IL := hide hi
  have KK := hide (And.intro hk1 hk2)
  clear hB hox r1 r2 e1 c3 g2 hn hl h hV hf hi hk1 hk2 hl'
  go_enter Tryz.func197, Tryz.ntmps197
  go_upto_region 5 with (go_at_call 269; refine HI.out.mono ?_; rintro e W1 ⟨rfl, hw⟩; have B1 := hide hw; clear hw)
  generalize (w.alloc (.cells #[.pointer (some ⟨gd, 0, none⟩)] 96)).alloc (.cells #[.bool b] 4) = W0 at *
  clear HI c4 g1
  have D1 := hide (D0.out.below B1.out)
  have B2 := hide (below_next HB.out B1.out)
  have R2 := hide ((B1.out.block _ (lt_heap R1.out)).trans R1.out)
  clear D0 R1 B1 HB
  have g1 : W1.cell? ⟨w.heap.size, 0, none⟩ = some (.pointer (some ⟨gd, 0, none⟩)) := by rw [cell_of_row _ _ _ _ _ _ R2.out]; rfl
  have c4 : W1.cell? ⟨gd, 4, none⟩ = some (.slice (some ⟨gp, 0, none⟩) x.plan.length cap) := D1.out.cell 4 (by decide)
  have O1 : Hid (OX KFl W1 (.slice (some ⟨gp, 0, none⟩) x.plan.length cap) x.plan) := by
    show OX _ _ _ _
    have := D1.out.plan
    rw [fls_flat] at this
    exact this
  have hr := O1.out.read.range i IL.out
  have hfi : x.plan[i]'IL.out = f := Option.some.inj ((List.getElem?_eq_getElem IL.out).symm.trans HF.out)
  rw [hfi, Nat.zero_add] at hr
  have q0 : W1.cell? ⟨gp, i * 4, none⟩ = some (.int .i64 f.pos) := hr 0 _ rfl
  have q1 : W1.cell? ⟨gp, i * 4 + 1, none⟩ = some (.int .i64 f.keep) := hr 1 _ rfl
  have q2 : W1.cell? ⟨gp, i * 4 + 2, none⟩ = some (.int .i64 f.torn) := hr 2 _ rfl
  have q3 : W1.cell? ⟨gp, i * 4 + 3, none⟩ = some (.bool f.sync) := hr 3 _ rfl
  clear hr hfi
  go_upto_region 6 with fail
  have b2 := (Below.refl W1.heap.size W1).alloc (Nat.le_refl _) (.cells #[.int .i64 f.pos, .int .i64 f.keep, .int .i64 f.torn, .bool f.sync] 114)
  have R7 := hide (heap_alloc_last W1 (.cells #[.int .i64 f.pos, .int .i64 f.keep, .int .i64 f.torn, .bool f.sync] 114))
  have D2 := hide (D1.out.below b2)
  have B3 := hide (below_next B2.out b2)
  have R3 := hide ((b2.block _ (lt_heap R2.out)).trans R2.out)
  have L7 := hide (And.intro D1.out.lt B2.out.size)
  clear b2 D1 B2 R2 O1 q0 q1 q2 q3 g1 c4 HF k2
  generalize W1.heap.size = g7 at *
  generalize W1.alloc (.cells #[.int .i64 f.pos, .int .i64 f.keep, .int .i64 f.torn, .bool f.sync] 114) = W2 at *
  have bd : Below W2.heap.size W2 W2.drew := (Below.refl W2.heap.size W2).drew
  have D3 := hide (D2.out.below bd)
  have B4 := hide (below_next B3.out bd)
  have R4 : Hid (W2.drew.heap[w.heap.size]? = some (.cells #[.pointer (some ⟨gd, 0, none⟩)] 96 (0, 0))) := R3.out
  have R8 : Hid (W2.drew.heap[g7]? = some (.cells #[.int .i64 f.pos, .int .i64 f.keep, .int .i64 f.torn, .bool f.sync] 114 (0, 0))) := R7.out
  clear bd D2 B3 R3 R7
  have g1 : W2.drew.cell? ⟨w.heap.size, 0, none⟩ = some (.pointer (some ⟨gd, 0, none⟩)) := by rw [cell_of_row _ _ _ _ _ _ R4.out]; rfl
  refine wp_region_held_drew (S := fun W => W.cell? ⟨w.heap.size, 0, none⟩ = some (.pointer (some ⟨gd, 0, none⟩))) (by kernel_rfl) g1 (fun hH => ?_)
  generalize W2.drew = W3 at *
  have c4 : W3.cell? ⟨gd, 4, none⟩ = some (.slice (some ⟨gp, 0, none⟩) x.plan.length cap) := D3.out.cell 4 (by decide)
  have O3 : Hid (OX KFl W3 (.slice (some ⟨gp, 0, none⟩) x.plan.length cap) x.plan) := by
    show OX _ _ _ _
    have := D3.out.plan
    rw [fls_flat] at this
    exact this
  have HD := hide (delete_any x.plan gp cap i W3 O3.out IL.out)
  refine wpAnyH_take (i := 0) (v := (.pointer (some ⟨gd, 0, none⟩))) rfl (by kernel_rfl) (by kernel_rfl) (by kernel_rfl) (fun _ _ _ h => h) (.inl ⟨by rfl, fun W hS => by have c4 := hS; go_simp⟩) hH ?_
  change wpAnyH _ _ _ _ _ _ _ (Act.put _ (some 24) _) _
  simp only [Act.put, List.setIfInBounds_toArray, List.set_cons_zero, List.set_cons_succ]
  refine wpAnyH_take (i := 1) (v := (.pointer (some ⟨gd, 0, none⟩))) rfl (by kernel_rfl) (by kernel_rfl) (by kernel_rfl) (fun _ _ _ h => h) (.inl ⟨by rfl, fun W hS => by have c4 := hS; go_simp⟩) hH ?_
  change wpAnyH _ _ _ _ _ _ _ (Act.put _ (some 25) _) _
  simp only [Act.put, List.setIfInBounds_toArray, List.set_cons_zero, List.set_cons_succ]
  refine wpAnyH_take (i := 2) (v := (.pointer (some ⟨gd, 0, none⟩))) rfl (by kernel_rfl) (by kernel_rfl) (by kernel_rfl) (fun _ _ _ h => h) (.inl ⟨by rfl, fun W _ => by go_simp⟩) hH ?_
  change wpAnyH _ _ _ _ _ _ _ (Act.put _ (some 26) _) _
  simp only [Act.put, List.setIfInBounds_toArray, List.set_cons_zero, List.set_cons_succ]
  refine wpAnyH_take (i := 3) (v := (.pointer (some ⟨gd, 4, none⟩))) rfl (by kernel_rfl) (by kernel_rfl) (by kernel_rfl) (fun _ _ _ h => h) (.inl ⟨by rfl, fun W _ => by go_simp⟩) hH ?_
  change wpAnyH _ _ _ _ _ _ _ (Act.put _ (some 27) _) _
  simp only [Act.put, List.setIfInBounds_toArray, List.set_cons_zero, List.set_cons_succ]
  refine wpAnyH_take (i := 5) (v := (.int .i64 (i : Int))) rfl (by kernel_rfl) (by kernel_rfl) (by kernel_rfl) (fun _ _ _ h => h) (ylD_move (by rfl) _ (by rfl) _ (by rfl)) hH ?_
  change wpAnyH _ _ _ _ _ _ _ (Act.put _ (some 29) _) _
  simp only [Act.put, List.setIfInBounds_toArray, List.set_cons_zero, List.set_cons_succ]
  refine wpAnyH_take (i := 6) (v := (.int .i64 (i : Int))) rfl (by kernel_rfl) (by kernel_rfl) (by kernel_rfl) (fun _ _ _ h => h) (ylD_move (by rfl) _ (by rfl) _ (by rfl)) hH ?_
  change wpAnyH _ _ _ _ _ _ _ (Act.put _ (some 30) _) _
  simp only [Act.put, List.setIfInBounds_toArray, List.set_cons_zero, List.set_cons_succ]
  refine wpAnyH_take (i := 7) (v := (.int .i64 ((i : Int) + 1))) rfl (by kernel_rfl) (by kernel_rfl) (by kernel_rfl) (fun _ _ _ h => h) (.inl ⟨by rfl, fun W _ => by go_simp⟩) hH ?_
  change wpAnyH _ _ _ _ _ _ _ (Act.put _ (some 31) _) _
  simp only [Act.put, List.setIfInBounds_toArray, List.set_cons_zero, List.set_cons_succ]
  refine wpAnyH_ready (rs := [4]) (by kernel_rfl) (by simp) (AllReadyH.cons rfl (fun K1 hK1 => ?_) AllReadyH.nil)
  go_simp
  refine hK1.out _ _ g1 (fun hH => ?_)
  clear hK1
  refine wpAnyH_ready (rs := [8]) (by kernel_rfl) (by simp) (AllReadyH.cons rfl (fun K1 hK1 => ?_) AllReadyH.nil)
  go_simp
  refine HD.out.mono ?_
  rintro e W4 ⟨rfl, o4, f4⟩
  have O4 := hide o4
  have F4 := hide f4
  clear o4 f4 HD
  have LE := hide (show (x.plan.eraseIdx i).length = x.plan.length - 1 by rw [List.length_eraseIdx, if_pos IL.out])
  have R5 := hide ((F4.out.block _ (lt_heap R4.out) (by have := LG.out; omega)).trans R4.out)
  have g4 : W4.cell? ⟨w.heap.size, 0, none⟩ = some (.pointer (some ⟨gd, 0, none⟩)) := by rw [cell_of_row _ _ _ _ _ _ R5.out]; rfl
  refine hK1.out _ _ g4 (fun hH => ?_)
  clear hK1
  refine wpAnyH_take (i := 9) (v := (.pointer (some ⟨gd, 0, none⟩))) rfl (by kernel_rfl) (by kernel_rfl) (by kernel_rfl) (fun _ _ _ h => h) (.inl ⟨by rfl, fun W _ => by go_simp⟩) hH ?_
  change wpAnyH _ _ _ _ _ _ _ (Act.put _ (some 33) _) _
  simp only [Act.put, List.setIfInBounds_toArray, List.set_cons_zero, List.set_cons_succ]
  refine wpAnyH_take (i := 10) (v := (.pointer (some ⟨gd, 4, none⟩))) rfl (by kernel_rfl) (by kernel_rfl) (by kernel_rfl) (fun _ _ _ h => h) (.inl ⟨by rfl, fun W _ => by go_simp⟩) hH ?_
  change wpAnyH _ _ _ _ _ _ _ (Act.put _ (some 34) _) _
  simp only [Act.put, List.setIfInBounds_toArray, List.set_cons_zero, List.set_cons_succ]
  have hrw := World.rowIs.of_block D3.out.row (F4.out.block gd (D3.out.lt gd D3.out.tg) (fun e => LG.out.2.2 e.symm))
  have f3 := World.rowIs.frozen hrw 4
  have c5 := World.rowIs.cell hrw (i := 4) (by decide)
  have NP := hide (D3.out.newPlan (l' := x.plan.eraseIdx i) (v' := .slice (some ⟨gp, 0, none⟩) (x.plan.length - 1) cap) (by rw [fls_flat]; exact O4.out) ⟨F4.out.os, F4.out.tape, F4.out.output, F4.out.size, fun k hk hn => F4.out.block k hk (fun e => hn (by rw [e]; rfl))⟩ (fun g e => .inl e))
  refine wpAnyH_ready (rs := [11]) (by kernel_rfl) (by simp) (AllReadyH.cons rfl (fun K1 hK1 => ?_) AllReadyH.nil)
  go_simp
  have q5 : (W4.setCell ⟨gd, 4, none⟩ (.slice (some ⟨gp, 0, none⟩) (x.plan.length - 1) cap)).heap[w.heap.size]? = some (.cells #[.pointer (some ⟨gd, 0, none⟩)] 96 (0, 0)) := (Below.heap_setCell _ _ _ _ (by have := LG.out; intro e; have e' : w.heap.size = gd := e; omega)).trans R5.out
  have g5 : (W4.setCell ⟨gd, 4, none⟩ (.slice (some ⟨gp, 0, none⟩) (x.plan.length - 1) cap)).cell? ⟨w.heap.size, 0, none⟩ = some (.pointer (some ⟨gd, 0, none⟩)) := by rw [cell_of_row _ _ _ _ _ _ q5]; rfl
  refine hK1.out _ _ g5 (fun hH => ?_)
  clear hK1
  refine wpAnyH_done (by kernel_rfl) ?_ _
  clear hH
  have N5 := hide NP.out.1
  have F5 := hide NP.out.2
  have R9 := hide ((F5.out.block _ (lt_heap R8.out) (fun t => by have := L7.out.1 _ t; omega)).trans R8.out)
  have SZ := hide (show W3.heap.size ≤ W4.heap.size from F4.out.size)
  have S5 := hide (show (W4.setCell ⟨gd, 4, none⟩ (.slice (some ⟨gp, 0, none⟩) (x.plan.length - 1) cap)).heap.size = W4.heap.size by simp [World.setCell])
  clear NP hrw f3 c5 q5 g4 c4 O3 O4 F4 R4 R5 R8 D3 g1
  generalize W4.setCell ⟨gd, 4, none⟩ (.slice (some ⟨gp, 0, none⟩) (x.plan.length - 1) cap) = W5 at *
  have c1 : W5.cell? ⟨g7, 1, none⟩ = some (.int .i64 f.keep) := by rw [cell_of_row _ _ _ _ _ _ R9.out]; rfl
  have c2 : W5.cell? ⟨g7, 2, none⟩ = some (.int .i64 f.torn) := by rw [cell_of_row _ _ _ _ _ _ R9.out]; rfl
  have HF := hide (fall_any gd { x with plan := x.plan.eraseIdx i } (grow T W3 W4) f.keep f.torn W5 ⟨_, _, _, _, _, _, N5.out⟩ ⟨HV.out.ok, HV.out.now, HV.out.many, HV.out.made⟩ KK.out.1 KK.out.2)
  go_wp2_with (go_at_call 119; refine HF.out.mono ?_; rintro e W6 ⟨⟨r, rfl⟩, d6, f6⟩; have D6 := hide d6; have F6 := hide f6; clear d6 f6)
  go_ret
  have hs := SZ.out
  have hs5 := S5.out
  have hb := B4.out.size
  have h6 := F6.out.size
  have hlt := N5.out.lt
  refine ⟨rfl, D6.out.wide (fun g hg => ?_) (fun g hg => ?_), ((Fr.of_below B4.out).trans' F5.out).trans (F6.out.mono fun g hg => ?_)⟩
  · rcases hg with (hg | hg) | hg
    · exact .inl hg
    · exact .inr ⟨by omega, by omega⟩
    · exact .inr ⟨by omega, hg.2⟩
  · rcases hg with hg | hg
    · have := hlt g (.inl hg)
      omega
    · exact hg.2
  · rcases hg with hg | hg
    · exact .inl hg
    · exact .inr ⟨by omega, by omega⟩
end
end Go.Proofs.YtppooipamibhoaaGreatDoor
