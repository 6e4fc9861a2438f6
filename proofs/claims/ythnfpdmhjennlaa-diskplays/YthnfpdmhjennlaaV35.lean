/- The law's one: it comes up, a plan, a copy; and all kinds. -/
import Derived.Test.YthnfpdmhjennlaaV34
namespace Go.Proofs.Ythnfpdmhjennlaa
open Go.RowKit
open Go.Deep
open Go.Lib
set_option linter.unusedVariables false
set_option linter.unusedSimpArgs false
theorem LXK.hop {α : Type} {E : Ek α} {K T T' : Nat → Prop} {w w4 : World} {v : Value} {L : List α} (h : LXK E K w v L) (a : Ag T w w4) (hTK : ∀ g, T g → K g) (hT : ∀ g, T' g → w.heap.size ≤ g) : LXK E (fun g => T' g ∨ K g) w4 v L := fun w2 b => h w2 ⟨Nat.le_trans a.1 b.1, fun k hk hn => (b.2 k (Nat.lt_of_lt_of_le hk a.1) (fun c => c.elim (fun c => by have := hT k c; omega) hn)).trans (a.2 k hk (fun c => hn (hTK k c)))⟩
theorem isD.hop {K T T' : Nat → Prop} {w w4 : World} {v : Value} {x : St} (h : isD K w v x) (a : Ag T w w4) (hTK : ∀ g, T g → K g) (hT : ∀ g, T' g → w.heap.size ≤ g) : isD (fun g => T' g ∨ K g) w4 v x := by
  obtain ⟨vs, vl, vp, S, e, h⟩ := h
  exact ⟨vs, vl, vp, S, e, h.sure.hop a hTK hT, h.rep, h.loose.hop a hTK hT, h.plan.hop a hTK hT⟩
theorem Fr.ag {T : Nat → Prop} {w w' : World} (f : Fr T w w') : Ag T w w' := ⟨f.size, f.block⟩
section
set_option maxRecDepth 10000
set_option maxHeartbeats 8000000
variable {gd nn : Nat} {x : St} {K T : Nat → Prop} {mv : Value} {w : World}
theorem one_7 (h : DK w gd x T) (hm : isD K w mv x) (hTK : ∀ g, T g → K g) (hKl : ∀ g, K g → g < w.heap.size) (G : Gd x nn) (hnn : nn ≤ 9000) (atv nv : Int) (nm tn s : ByteArray) (pa : Option Addr) (pn pc : Nat) (ha1 : -9223372036854775808 ≤ atv) (ha2 : atv < 9223372036854775808) (hn1 : -9223372036854775808 ≤ nv) (hn2 : nv < 9223372036854775808) (hs1 : nm.size ≤ maxLen) (hs2 : tn.size ≤ maxLen) (hs3 : s.size ≤ maxLen) : Calls Try.prog 6 #[.pointer (some ⟨gd, 0, none⟩), mv, .agg #[.int .i64 7, .int .i64 atv, .int .i64 nv, .string nm, .string tn, .string s, .slice pa pn pc]] w (OneP w K T (nn + 1)) := by
  have HTl : ∀ g, T g → g < w.heap.size := h.lt
  obtain ⟨ao, n, cs, al, cl, ap, cp, rfl⟩ := hm.form
  have s1 : (w.alloc (.cells #[.slice ao n cs, .slice al x.loose.length cl, .int .i64 (x.made : Int), .slice ap x.plan.length cp, .bool x.dead] 30)).heap.size = w.heap.size + 1 := by simp
  have s2 : ((w.alloc (.cells #[.slice ao n cs, .slice al x.loose.length cl, .int .i64 (x.made : Int), .slice ap x.plan.length cp, .bool x.dead] 30)).alloc (.cells #[.int .i64 7, .int .i64 atv, .int .i64 nv, .string nm, .string tn, .string s, .slice pa pn pc] 35)).heap.size = w.heap.size + 2 := by simp
  have s3 : (((w.alloc (.cells #[.slice ao n cs, .slice al x.loose.length cl, .int .i64 (x.made : Int), .slice ap x.plan.length cp, .bool x.dead] 30)).alloc (.cells #[.int .i64 7, .int .i64 atv, .int .i64 nv, .string nm, .string tn, .string s, .slice pa pn pc] 35)).alloc (.cells (dcs (.slice none 0 0) (.slice none 0 0) 0 (.slice none 0 0) false) 30)).heap.size = w.heap.size + 3 := by simp
  have r1 : (((w.alloc (.cells #[.slice ao n cs, .slice al x.loose.length cl, .int .i64 (x.made : Int), .slice ap x.plan.length cp, .bool x.dead] 30)).alloc (.cells #[.int .i64 7, .int .i64 atv, .int .i64 nv, .string nm, .string tn, .string s, .slice pa pn pc] 35)).alloc (.cells (dcs (.slice none 0 0) (.slice none 0 0) 0 (.slice none 0 0) false) 30)).heap[w.heap.size]? = some (.cells #[.slice ao n cs, .slice al x.loose.length cl, .int .i64 (x.made : Int), .slice ap x.plan.length cp, .bool x.dead] 30 (0, 0)) := (Below.heap_alloc _ _ _ (by rw [s2]; omega)).trans ((Below.heap_alloc _ _ _ (by rw [s1]; omega)).trans (heap_alloc_last w _))
  have r2 : (((w.alloc (.cells #[.slice ao n cs, .slice al x.loose.length cl, .int .i64 (x.made : Int), .slice ap x.plan.length cp, .bool x.dead] 30)).alloc (.cells #[.int .i64 7, .int .i64 atv, .int .i64 nv, .string nm, .string tn, .string s, .slice pa pn pc] 35)).alloc (.cells (dcs (.slice none 0 0) (.slice none 0 0) 0 (.slice none 0 0) false) 30)).heap[w.heap.size + 1]? = some (.cells #[.int .i64 7, .int .i64 atv, .int .i64 nv, .string nm, .string tn, .string s, .slice pa pn pc] 35 (0, 0)) := by
    have := heap_alloc_last (w.alloc (.cells #[.slice ao n cs, .slice al x.loose.length cl, .int .i64 (x.made : Int), .slice ap x.plan.length cp, .bool x.dead] 30)) (.cells #[.int .i64 7, .int .i64 atv, .int .i64 nv, .string nm, .string tn, .string s, .slice pa pn pc] 35)
    rw [s1] at this
    exact (Below.heap_alloc _ _ _ (by rw [s2]; omega)).trans this
  have r3 : (((w.alloc (.cells #[.slice ao n cs, .slice al x.loose.length cl, .int .i64 (x.made : Int), .slice ap x.plan.length cp, .bool x.dead] 30)).alloc (.cells #[.int .i64 7, .int .i64 atv, .int .i64 nv, .string nm, .string tn, .string s, .slice pa pn pc] 35)).alloc (.cells (dcs (.slice none 0 0) (.slice none 0 0) 0 (.slice none 0 0) false) 30)).heap[w.heap.size + 2]? = some (.cells (dcs (.slice none 0 0) (.slice none 0 0) 0 (.slice none 0 0) false) 30 (0, 0)) := by
    have := heap_alloc_last ((w.alloc (.cells #[.slice ao n cs, .slice al x.loose.length cl, .int .i64 (x.made : Int), .slice ap x.plan.length cp, .bool x.dead] 30)).alloc (.cells #[.int .i64 7, .int .i64 atv, .int .i64 nv, .string nm, .string tn, .string s, .slice pa pn pc] 35)) (.cells (dcs (.slice none 0 0) (.slice none 0 0) 0 (.slice none 0 0) false) 30)
    rw [s2] at this
    exact this
  have hB : Below w.heap.size w (((w.alloc (.cells #[.slice ao n cs, .slice al x.loose.length cl, .int .i64 (x.made : Int), .slice ap x.plan.length cp, .bool x.dead] 30)).alloc (.cells #[.int .i64 7, .int .i64 atv, .int .i64 nv, .string nm, .string tn, .string s, .slice pa pn pc] 35)).alloc (.cells (dcs (.slice none 0 0) (.slice none 0 0) 0 (.slice none 0 0) false) 30)) := (((Below.refl w.heap.size w).alloc (Nat.le_refl _) _).alloc (by rw [s1]; omega) _).alloc (by rw [s2]; omega) _
  have HB := hide hB
  have R1 := hide r1
  have R2 := hide r2
  have R3 := hide r3
  have S3 := hide s3
  have D1 := hide (h.below hB)
  have H1 := hide (hm.up hB)
  have HT := hide HTl
  have HK : Hid (∀ g, grow K w (((w.alloc (.cells #[.slice ao n cs, .slice al x.loose.length cl, .int .i64 (x.made : Int), .slice ap x.plan.length cp, .bool x.dead] 30)).alloc (.cells #[.int .i64 7, .int .i64 atv, .int .i64 nv, .string nm, .string tn, .string s, .slice pa pn pc] 35)).alloc (.cells (dcs (.slice none 0 0) (.slice none 0 0) 0 (.slice none 0 0) false) 30)) g → g < (((w.alloc (.cells #[.slice ao n cs, .slice al x.loose.length cl, .int .i64 (x.made : Int), .slice ap x.plan.length cp, .bool x.dead] 30)).alloc (.cells #[.int .i64 7, .int .i64 atv, .int .i64 nv, .string nm, .string tn, .string s, .slice pa pn pc] 35)).alloc (.cells (dcs (.slice none 0 0) (.slice none 0 0) 0 (.slice none 0 0) false) 30)).heap.size) := grow_lt hKl hB.size
  have HKn : Hid (∀ g, T g → grow K w (((w.alloc (.cells #[.slice ao n cs, .slice al x.loose.length cl, .int .i64 (x.made : Int), .slice ap x.plan.length cp, .bool x.dead] 30)).alloc (.cells #[.int .i64 7, .int .i64 atv, .int .i64 nv, .string nm, .string tn, .string s, .slice pa pn pc] 35)).alloc (.cells (dcs (.slice none 0 0) (.slice none 0 0) 0 (.slice none 0 0) false) 30)) g) := fun g hg => .inl (hTK g hg)
  have HKk : Hid (∀ g, K g → grow K w (((w.alloc (.cells #[.slice ao n cs, .slice al x.loose.length cl, .int .i64 (x.made : Int), .slice ap x.plan.length cp, .bool x.dead] 30)).alloc (.cells #[.int .i64 7, .int .i64 atv, .int .i64 nv, .string nm, .string tn, .string s, .slice pa pn pc] 35)).alloc (.cells (dcs (.slice none 0 0) (.slice none 0 0) 0 (.slice none 0 0) false) 30)) g) := fun g hg => .inl hg
  have HKo : Hid (∀ g, w.heap.size ≤ g → g < w.heap.size + 3 → grow K w (((w.alloc (.cells #[.slice ao n cs, .slice al x.loose.length cl, .int .i64 (x.made : Int), .slice ap x.plan.length cp, .bool x.dead] 30)).alloc (.cells #[.int .i64 7, .int .i64 atv, .int .i64 nv, .string nm, .string tn, .string s, .slice pa pn pc] 35)).alloc (.cells (dcs (.slice none 0 0) (.slice none 0 0) 0 (.slice none 0 0) false) 30)) g) := fun g h1 h2 => .inr ⟨h1, by rw [s3]; omega⟩
  have HG := hide G
  have HX := hide (And.intro ha1 (And.intro ha2 (And.intro hn1 (And.intro hn2 (And.intro hs1 (And.intro hs2 (And.intro hs3 hnn)))))))
  clear hB r1 r2 r3 s3 h hm hTK hKl G HTl ha1 ha2 hn1 hn2 hs1 hs2 hs3 hnn
  generalize grow K w (((w.alloc (.cells #[.slice ao n cs, .slice al x.loose.length cl, .int .i64 (x.made : Int), .slice ap x.plan.length cp, .bool x.dead] 30)).alloc (.cells #[.int .i64 7, .int .i64 atv, .int .i64 nv, .string nm, .string tn, .string s, .slice pa pn pc] 35)).alloc (.cells (dcs (.slice none 0 0) (.slice none 0 0) 0 (.slice none 0 0) false) 30)) = K2 at *
  go_enter Try.func6, Try.ntmps6
  go_upto_region 1 with ((with_reducible refine at_list ?_); first | refine wpList_boxA rfl _ rfl _ rfl ?_ | refine wpList_allocA ADd rfl rfl ?_)
  try rw [s2]
  try rw [s1]
  clear s1 s2
  generalize (((w.alloc (.cells #[.slice ao n cs, .slice al x.loose.length cl, .int .i64 (x.made : Int), .slice ap x.plan.length cp, .bool x.dead] 30)).alloc (.cells #[.int .i64 7, .int .i64 atv, .int .i64 nv, .string nm, .string tn, .string s, .slice pa pn pc] 35)).alloc (.cells (dcs (.slice none 0 0) (.slice none 0 0) 0 (.slice none 0 0) false) 30)) = W1 at *
  generalize hgb : w.heap.size = b0 at *
  have CC : Hid (∀ W : World, W.heap[b0 + 1]? = some (.cells #[.int .i64 7, .int .i64 atv, .int .i64 nv, .string nm, .string tn, .string s, .slice pa pn pc] 35 (0, 0)) → W.cell? ⟨b0 + 1, 0, none⟩ = some (.int .i64 7) ∧ W.cell? ⟨b0 + 1, 1, none⟩ = some (.int .i64 atv) ∧ W.cell? ⟨b0 + 1, 2, none⟩ = some (.int .i64 nv) ∧ W.cell? ⟨b0 + 1, 3, none⟩ = some (.string nm) ∧ W.cell? ⟨b0 + 1, 4, none⟩ = some (.string tn) ∧ W.cell? ⟨b0 + 1, 5, none⟩ = some (.string s) ∧ W.cell? ⟨b0 + 1, 6, none⟩ = some (.slice pa pn pc)) := fun W e => by
    refine ⟨?_, ?_, ?_, ?_, ?_, ?_, ?_⟩ <;> (rw [cell_of_row _ _ _ _ _ _ e]; rfl)
  obtain ⟨c0, c1, c2, c3, c4, c5, c6⟩ := CC.out _ R2.out
  have HTb : Hid (∀ g, T g → g < b0) := HT.out
  go_upto_region 30 with (go_at_call 12; refine (up_any gd x T W1 D1.out).mono ?_; rintro e W2 ⟨rfl, d2, f2, z2⟩; have D2 := hide d2; have F2 := hide f2; clear d2 f2 z2)
  clear c0 c1 c2 c3 c4 c5 c6
  have bk : ∀ j, j < 3 → W2.heap[b0 + j]? = W1.heap[b0 + j]? := fun j hj => F2.out.block _ (by have := S3.out; omega) (fun c => by have := HTb.out _ c; omega)
  have RA : Hid (W2.heap[b0]? = some (.cells #[.slice ao n cs, .slice al x.loose.length cl, .int .i64 (x.made : Int), .slice ap x.plan.length cp, .bool x.dead] 30 (0, 0))) := (bk 0 (by omega)).trans R1.out
  have RB := hide ((bk 2 (by omega)).trans R3.out)
  clear bk
  have H2 : Hid (isD (grow K2 W1 W2) W2 (.agg #[.slice ao n cs, .slice al x.loose.length cl, .int .i64 (x.made : Int), .slice ap x.plan.length cp, .bool x.dead]) x) := H1.out.fr (F2.out.mono HKn.out)
  have d4 : W2.cell? ⟨b0, 4, none⟩ = some (.bool x.dead) := by rw [cell_of_row _ _ _ _ _ _ RA.out]; rfl
  have f4 := frozen_of_row _ _ 4 _ _ RA.out
  go_upto_region 32 with fail
  clear d4 f4
  have R4 : Hid ((W2.setCell ⟨b0, 4, none⟩ (.bool false)).heap[b0]? = some (.cells #[.slice ao n cs, .slice al x.loose.length cl, .int .i64 (x.made : Int), .slice ap x.plan.length cp, .bool false] 30 (0, 0))) := heap_setCell_same W2 b0 4 _ _ _ RA.out
  have RB4 : Hid ((W2.setCell ⟨b0, 4, none⟩ (.bool false)).heap[b0 + 2]? = some (.cells (dcs (.slice none 0 0) (.slice none 0 0) 0 (.slice none 0 0) false) 30 (0, 0))) := (Below.heap_setCell _ _ _ _ (show b0 + 2 ≠ b0 by omega)).trans RB.out
  have D4 : Hid (isD (grow K2 W1 W2) (W2.setCell ⟨b0, 4, none⟩ (.bool false)) (.agg #[.slice ao n cs, .slice al x.loose.length cl, .int .i64 (x.made : Int), .slice ap x.plan.length cp, .bool false]) { x with dead := false }) := by
    obtain ⟨vs, vl, vp, S, e, q⟩ := H2.out
    have e1 : vs = .slice ao n cs ∧ vl = .slice al x.loose.length cl ∧ vp = .slice ap x.plan.length cp := by
      unfold dcs at e
      simp only [Value.agg.injEq, Array.mk.injEq, List.cons.injEq] at e
      exact ⟨e.1.symm, e.2.1.symm, e.2.2.2.1.symm⟩
    obtain ⟨rfl, rfl, rfl⟩ := e1
    have q2 := q.write (Fr.setCell (S := grow K2 W1 W2) W2 (p := ⟨b0, 4, none⟩) (.inl (HKo.out b0 (Nat.le_refl _) (by omega))) (.bool false))
    exact ⟨_, _, _, S, rfl, q2.sure, q2.rep, q2.loose, q2.plan⟩
  have P4 : Hid (DK (W2.setCell ⟨b0, 4, none⟩ (.bool false)) gd { x with dead := false } T) := D2.out.keep (by simp [World.setCell]) (fun g hg => Below.heap_setCell _ _ _ _ (fun e => by
    have := HTb.out _ hg
    simp at e
    omega))
  have F4 : Hid (Fr T w (W2.setCell ⟨b0, 4, none⟩ (.bool false))) := by
    have h1 : Fr T w W2 := (Fr.of_below (by have := HB.out; rw [← hgb] at this; exact this)).trans' F2.out
    exact ⟨h1.os, h1.tape, h1.output, by simp [World.setCell]; exact h1.size, fun k hk hn => (Below.heap_setCell _ _ _ _ (fun e => by simp at e; omega)).trans (h1.block k hk hn)⟩
  clear RA RB H2 D2
  generalize (W2.setCell ⟨b0, 4, none⟩ (.bool false)) = W4 at *
  generalize hxd : x.dead = xd at *
  refine wp_region_held_drew (S := fun W => W.heap[b0]? = some (.cells #[.slice ao n cs, .slice al x.loose.length cl, .int .i64 (x.made : Int), .slice ap x.plan.length cp, .bool false] 30 (0, 0))) (by kernel_rfl) R4.out (fun hH => ?_)
  refine wpAnyH_take (i := 0) (v := .pointer (some ⟨gd, 0, none⟩)) rfl (by kernel_rfl) (by kernel_rfl) (by kernel_rfl) (fun _ _ _ h => h) (yl_move (by rfl) _ (by rfl) _ (by rfl)) hH ?_
  change wpAnyH _ _ _ _ _ _ _ (Act.put _ (some 145) _) _
  simp only [Act.put, List.setIfInBounds_toArray, List.set_cons_zero, List.set_cons_succ]
  refine wpAnyH_take (i := 1) (v := .agg #[.slice ao n cs, .slice al x.loose.length cl, .int .i64 (x.made : Int), .slice ap x.plan.length cp, .bool false]) rfl (by kernel_rfl) (by kernel_rfl) (by kernel_rfl) (fun _ _ _ h => h) (yl_load (by rfl) _ (by rfl) _ _ (by rfl) (fun W hS => ld_row ADd rfl hS)) hH ?_
  change wpAnyH _ _ _ _ _ _ _ (Act.put _ (some 146) _) _
  simp only [Act.put, List.setIfInBounds_toArray, List.set_cons_zero, List.set_cons_succ]
  refine wpAnyH_take (i := 2) (v := .bool xd) rfl (by kernel_rfl) (by kernel_rfl) (by kernel_rfl) (fun _ _ _ h => h) (yl_move (by rfl) _ (by rfl) _ (by rfl)) hH ?_
  change wpAnyH _ _ _ _ _ _ _ (Act.put _ (some 147) _) _
  simp only [Act.put, List.setIfInBounds_toArray, List.set_cons_zero, List.set_cons_succ]
  refine wpAnyH_take (i := 3) (v := .bool xd) rfl (by kernel_rfl) (by kernel_rfl) (by kernel_rfl) (fun _ _ _ h => h) (yl_move (by rfl) _ (by rfl) _ (by rfl)) hH ?_
  change wpAnyH _ _ _ _ _ _ _ (Act.put _ (some 148) _) _
  simp only [Act.put, List.setIfInBounds_toArray, List.set_cons_zero, List.set_cons_succ]
  refine wpAnyH_take (i := 4) (v := .bool true) rfl (by kernel_rfl) (by kernel_rfl) (by kernel_rfl) (fun _ _ _ h => h) (.inl ⟨by rfl, fun W _ => by go_simp⟩) hH ?_
  change wpAnyH _ _ _ _ _ _ _ (Act.put _ (some 149) _) _
  simp only [Act.put, List.setIfInBounds_toArray, List.set_cons_zero, List.set_cons_succ]
  refine wpAnyH_take (i := 5) (v := .pointer (some ⟨gd, 0, none⟩)) rfl (by kernel_rfl) (by kernel_rfl) (by kernel_rfl) (fun _ _ _ h => h) (.inl ⟨by rfl, fun W _ => by go_simp⟩) hH ?_
  change wpAnyH _ _ _ _ _ _ _ (Act.put _ (some 6) _) _
  simp only [Act.put, List.setIfInBounds_toArray, List.set_cons_zero, List.set_cons_succ]
  have R5 : Hid (W4.drew.heap[b0]? = some (.cells #[.slice ao n cs, .slice al x.loose.length cl, .int .i64 (x.made : Int), .slice ap x.plan.length cp, .bool false] 30 (0, 0))) := R4.out
  have RB5 : Hid (W4.drew.heap[b0 + 2]? = some (.cells (dcs (.slice none 0 0) (.slice none 0 0) 0 (.slice none 0 0) false) 30 (0, 0))) := RB4.out
  have D5 := hide (D4.out.next (Below.refl W4.heap.size W4).drew)
  have P5 := hide (P4.out.below (Below.refl W4.heap.size W4).drew)
  have F5 : Hid (Fr T w W4.drew) := F4.out.trans' (Fr.of_below (Below.refl W4.heap.size W4).drew)
  clear R4 RB4 D4 P4 F4
  generalize W4.drew = W5 at *
  refine wpAnyH_ready (rs := [6]) (by kernel_rfl) (by simp) (AllReadyH.cons rfl (fun K1 hK1 => ?_) AllReadyH.nil)
  refine stepStoreA ADd (by rfl) _ _ (by rfl) (b0 + 2) #[.slice ao n cs, .slice al x.loose.length cl, .int .i64 (x.made : Int), .slice ap x.plan.length cp, .bool false] (by rfl) (by simp [Value.oneCell']) (by rfl) (by rfl) _ (by rfl) _ RB5.out ?_
  refine hK1.out _ _ ((setRow_other _ _ _ _ (by omega)).trans R5.out) (fun hH => ?_)
  clear hK1
  try simp only [Act.put]
  refine wpAnyH_take (i := 7) (v := .bool true) rfl (by kernel_rfl) (by kernel_rfl) (by kernel_rfl) (fun _ _ _ h => h) (.inl ⟨by rfl, fun W _ => by go_simp⟩) hH ?_
  change wpAnyH _ _ _ _ _ _ _ (Act.put _ (some 8) _) _
  simp only [Act.put, List.setIfInBounds_toArray, List.set_cons_zero, List.set_cons_succ]
  refine wpAnyH_done (by kernel_rfl) ?_ _
  go_wp2
  refine bodyPost_ret (res3b ADd Try.results6 _ _ (b0 + 2) 30 _ rfl (by rfl) (setRow_heap _ _ _ _ _ _ RB5.out) _ (by rfl) _ (by rfl)) rfl ?_
  refine ⟨gd, { x with dead := false }, T, _, rfl, P5.out.keep (by simp) (fun g hg => setRow_other _ _ _ _ (fun e => by subst e; have := HTb.out _ hg; omega)), (D5.out.write (Fr.setRow W5 (.inl (HKo.out (b0 + 2) (by omega) (by omega))) _)).mono (fun g hg => hg.elim (fun c => .inl (HKn.out g c)) (fun c => .inl (HKk.out g c))), HG.out.up.more (by omega), F5.out.newRow (by omega) _, fun g hg => .inl hg⟩
theorem one_8 (h : DK w gd x T) (hm : isD K w mv x) (hTK : ∀ g, T g → K g) (hKl : ∀ g, K g → g < w.heap.size) (G : Gd x nn) (hnn : nn ≤ 9000) (atv nv : Int) (nm tn s : ByteArray) (pa : Option Addr) (pn pc : Nat) (P : List Fl) (hp : LXK KFl T w (.slice pa pn pc) P) (hpP : okP P) (hpz : P.length * 32 ≤ 140737488355328) (ha1 : -9223372036854775808 ≤ atv) (ha2 : atv < 9223372036854775808) (hn1 : -9223372036854775808 ≤ nv) (hn2 : nv < 9223372036854775808) (hs1 : nm.size ≤ maxLen) (hs2 : tn.size ≤ maxLen) (hs3 : s.size ≤ maxLen) : Calls Try.prog 6 #[.pointer (some ⟨gd, 0, none⟩), mv, .agg #[.int .i64 8, .int .i64 atv, .int .i64 nv, .string nm, .string tn, .string s, .slice pa pn pc]] w (OneP w K T (nn + 1)) := by
  have hz0 := hp
  have HTl : ∀ g, T g → g < w.heap.size := h.lt
  obtain ⟨ao, n, cs, al, cl, ap, cp, rfl⟩ := hm.form
  have s1 : (w.alloc (.cells #[.slice ao n cs, .slice al x.loose.length cl, .int .i64 (x.made : Int), .slice ap x.plan.length cp, .bool x.dead] 30)).heap.size = w.heap.size + 1 := by simp
  have s2 : ((w.alloc (.cells #[.slice ao n cs, .slice al x.loose.length cl, .int .i64 (x.made : Int), .slice ap x.plan.length cp, .bool x.dead] 30)).alloc (.cells #[.int .i64 8, .int .i64 atv, .int .i64 nv, .string nm, .string tn, .string s, .slice pa pn pc] 35)).heap.size = w.heap.size + 2 := by simp
  have s3 : (((w.alloc (.cells #[.slice ao n cs, .slice al x.loose.length cl, .int .i64 (x.made : Int), .slice ap x.plan.length cp, .bool x.dead] 30)).alloc (.cells #[.int .i64 8, .int .i64 atv, .int .i64 nv, .string nm, .string tn, .string s, .slice pa pn pc] 35)).alloc (.cells (dcs (.slice none 0 0) (.slice none 0 0) 0 (.slice none 0 0) false) 30)).heap.size = w.heap.size + 3 := by simp
  have r1 : (((w.alloc (.cells #[.slice ao n cs, .slice al x.loose.length cl, .int .i64 (x.made : Int), .slice ap x.plan.length cp, .bool x.dead] 30)).alloc (.cells #[.int .i64 8, .int .i64 atv, .int .i64 nv, .string nm, .string tn, .string s, .slice pa pn pc] 35)).alloc (.cells (dcs (.slice none 0 0) (.slice none 0 0) 0 (.slice none 0 0) false) 30)).heap[w.heap.size]? = some (.cells #[.slice ao n cs, .slice al x.loose.length cl, .int .i64 (x.made : Int), .slice ap x.plan.length cp, .bool x.dead] 30 (0, 0)) := (Below.heap_alloc _ _ _ (by rw [s2]; omega)).trans ((Below.heap_alloc _ _ _ (by rw [s1]; omega)).trans (heap_alloc_last w _))
  have r2 : (((w.alloc (.cells #[.slice ao n cs, .slice al x.loose.length cl, .int .i64 (x.made : Int), .slice ap x.plan.length cp, .bool x.dead] 30)).alloc (.cells #[.int .i64 8, .int .i64 atv, .int .i64 nv, .string nm, .string tn, .string s, .slice pa pn pc] 35)).alloc (.cells (dcs (.slice none 0 0) (.slice none 0 0) 0 (.slice none 0 0) false) 30)).heap[w.heap.size + 1]? = some (.cells #[.int .i64 8, .int .i64 atv, .int .i64 nv, .string nm, .string tn, .string s, .slice pa pn pc] 35 (0, 0)) := by
    have := heap_alloc_last (w.alloc (.cells #[.slice ao n cs, .slice al x.loose.length cl, .int .i64 (x.made : Int), .slice ap x.plan.length cp, .bool x.dead] 30)) (.cells #[.int .i64 8, .int .i64 atv, .int .i64 nv, .string nm, .string tn, .string s, .slice pa pn pc] 35)
    rw [s1] at this
    exact (Below.heap_alloc _ _ _ (by rw [s2]; omega)).trans this
  have r3 : (((w.alloc (.cells #[.slice ao n cs, .slice al x.loose.length cl, .int .i64 (x.made : Int), .slice ap x.plan.length cp, .bool x.dead] 30)).alloc (.cells #[.int .i64 8, .int .i64 atv, .int .i64 nv, .string nm, .string tn, .string s, .slice pa pn pc] 35)).alloc (.cells (dcs (.slice none 0 0) (.slice none 0 0) 0 (.slice none 0 0) false) 30)).heap[w.heap.size + 2]? = some (.cells (dcs (.slice none 0 0) (.slice none 0 0) 0 (.slice none 0 0) false) 30 (0, 0)) := by
    have := heap_alloc_last ((w.alloc (.cells #[.slice ao n cs, .slice al x.loose.length cl, .int .i64 (x.made : Int), .slice ap x.plan.length cp, .bool x.dead] 30)).alloc (.cells #[.int .i64 8, .int .i64 atv, .int .i64 nv, .string nm, .string tn, .string s, .slice pa pn pc] 35)) (.cells (dcs (.slice none 0 0) (.slice none 0 0) 0 (.slice none 0 0) false) 30)
    rw [s2] at this
    exact this
  have hB : Below w.heap.size w (((w.alloc (.cells #[.slice ao n cs, .slice al x.loose.length cl, .int .i64 (x.made : Int), .slice ap x.plan.length cp, .bool x.dead] 30)).alloc (.cells #[.int .i64 8, .int .i64 atv, .int .i64 nv, .string nm, .string tn, .string s, .slice pa pn pc] 35)).alloc (.cells (dcs (.slice none 0 0) (.slice none 0 0) 0 (.slice none 0 0) false) 30)) := (((Below.refl w.heap.size w).alloc (Nat.le_refl _) _).alloc (by rw [s1]; omega) _).alloc (by rw [s2]; omega) _
  have HB := hide hB
  have R1 := hide r1
  have R2 := hide r2
  have R3 := hide r3
  have S3 := hide s3
  have D1 := hide (h.below hB)
  have H1 := hide (hm.up hB)
  have HT := hide HTl
  have HK : Hid (∀ g, grow K w (((w.alloc (.cells #[.slice ao n cs, .slice al x.loose.length cl, .int .i64 (x.made : Int), .slice ap x.plan.length cp, .bool x.dead] 30)).alloc (.cells #[.int .i64 8, .int .i64 atv, .int .i64 nv, .string nm, .string tn, .string s, .slice pa pn pc] 35)).alloc (.cells (dcs (.slice none 0 0) (.slice none 0 0) 0 (.slice none 0 0) false) 30)) g → g < (((w.alloc (.cells #[.slice ao n cs, .slice al x.loose.length cl, .int .i64 (x.made : Int), .slice ap x.plan.length cp, .bool x.dead] 30)).alloc (.cells #[.int .i64 8, .int .i64 atv, .int .i64 nv, .string nm, .string tn, .string s, .slice pa pn pc] 35)).alloc (.cells (dcs (.slice none 0 0) (.slice none 0 0) 0 (.slice none 0 0) false) 30)).heap.size) := grow_lt hKl hB.size
  have HKn : Hid (∀ g, T g → grow K w (((w.alloc (.cells #[.slice ao n cs, .slice al x.loose.length cl, .int .i64 (x.made : Int), .slice ap x.plan.length cp, .bool x.dead] 30)).alloc (.cells #[.int .i64 8, .int .i64 atv, .int .i64 nv, .string nm, .string tn, .string s, .slice pa pn pc] 35)).alloc (.cells (dcs (.slice none 0 0) (.slice none 0 0) 0 (.slice none 0 0) false) 30)) g) := fun g hg => .inl (hTK g hg)
  have HKk : Hid (∀ g, K g → grow K w (((w.alloc (.cells #[.slice ao n cs, .slice al x.loose.length cl, .int .i64 (x.made : Int), .slice ap x.plan.length cp, .bool x.dead] 30)).alloc (.cells #[.int .i64 8, .int .i64 atv, .int .i64 nv, .string nm, .string tn, .string s, .slice pa pn pc] 35)).alloc (.cells (dcs (.slice none 0 0) (.slice none 0 0) 0 (.slice none 0 0) false) 30)) g) := fun g hg => .inl hg
  have HKo : Hid (∀ g, w.heap.size ≤ g → g < w.heap.size + 3 → grow K w (((w.alloc (.cells #[.slice ao n cs, .slice al x.loose.length cl, .int .i64 (x.made : Int), .slice ap x.plan.length cp, .bool x.dead] 30)).alloc (.cells #[.int .i64 8, .int .i64 atv, .int .i64 nv, .string nm, .string tn, .string s, .slice pa pn pc] 35)).alloc (.cells (dcs (.slice none 0 0) (.slice none 0 0) 0 (.slice none 0 0) false) 30)) g) := fun g h1 h2 => .inr ⟨h1, by rw [s3]; omega⟩
  have HG := hide G
  have HX := hide (And.intro ha1 (And.intro ha2 (And.intro hn1 (And.intro hn2 (And.intro hs1 (And.intro hs2 (And.intro hs3 hnn)))))))
  have HP1 := hide (hp.now.below hB)
  have HP2 : Hid (∀ w2, Ag T w w2 → LX KFl w2 (.slice pa pn pc) P) := hz0
  have HPo := hide (And.intro hpP hpz)
  clear hp hpP hpz hz0
  clear hB r1 r2 r3 s3 h hm hTK hKl G HTl ha1 ha2 hn1 hn2 hs1 hs2 hs3 hnn
  generalize grow K w (((w.alloc (.cells #[.slice ao n cs, .slice al x.loose.length cl, .int .i64 (x.made : Int), .slice ap x.plan.length cp, .bool x.dead] 30)).alloc (.cells #[.int .i64 8, .int .i64 atv, .int .i64 nv, .string nm, .string tn, .string s, .slice pa pn pc] 35)).alloc (.cells (dcs (.slice none 0 0) (.slice none 0 0) 0 (.slice none 0 0) false) 30)) = K2 at *
  go_enter Try.func6, Try.ntmps6
  go_upto_region 1 with ((with_reducible refine at_list ?_); first | refine wpList_boxA rfl _ rfl _ rfl ?_ | refine wpList_allocA ADd rfl rfl ?_)
  try rw [s2]
  try rw [s1]
  clear s1 s2
  generalize (((w.alloc (.cells #[.slice ao n cs, .slice al x.loose.length cl, .int .i64 (x.made : Int), .slice ap x.plan.length cp, .bool x.dead] 30)).alloc (.cells #[.int .i64 8, .int .i64 atv, .int .i64 nv, .string nm, .string tn, .string s, .slice pa pn pc] 35)).alloc (.cells (dcs (.slice none 0 0) (.slice none 0 0) 0 (.slice none 0 0) false) 30)) = W1 at *
  generalize hgb : w.heap.size = b0 at *
  have CC : Hid (∀ W : World, W.heap[b0 + 1]? = some (.cells #[.int .i64 8, .int .i64 atv, .int .i64 nv, .string nm, .string tn, .string s, .slice pa pn pc] 35 (0, 0)) → W.cell? ⟨b0 + 1, 0, none⟩ = some (.int .i64 8) ∧ W.cell? ⟨b0 + 1, 1, none⟩ = some (.int .i64 atv) ∧ W.cell? ⟨b0 + 1, 2, none⟩ = some (.int .i64 nv) ∧ W.cell? ⟨b0 + 1, 3, none⟩ = some (.string nm) ∧ W.cell? ⟨b0 + 1, 4, none⟩ = some (.string tn) ∧ W.cell? ⟨b0 + 1, 5, none⟩ = some (.string s) ∧ W.cell? ⟨b0 + 1, 6, none⟩ = some (.slice pa pn pc)) := fun W e => by
    refine ⟨?_, ?_, ?_, ?_, ?_, ?_, ?_⟩ <;> (rw [cell_of_row _ _ _ _ _ _ e]; rfl)
  obtain ⟨c0, c1, c2, c3, c4, c5, c6⟩ := CC.out _ R2.out
  have HTb : Hid (∀ g, T g → g < b0) := HT.out
  go_upto_region 35 with (go_at_call 21; refine (plan_any gd x T _ P W1 D1.out HP1.out HPo.out.2).mono ?_; rintro e W2 ⟨⟨r, rfl⟩, d2, f2⟩; have D2 := hide d2; have F2 := hide f2; clear d2 f2)
  clear c0 c1 c2 c3 c4 c5 c6
  have bk : ∀ j, j < 3 → W2.heap[b0 + j]? = W1.heap[b0 + j]? := fun j hj => F2.out.block _ (by have := S3.out; omega) (fun c => by have := HTb.out _ c; omega)
  have RA : Hid (W2.heap[b0]? = some (.cells #[.slice ao n cs, .slice al x.loose.length cl, .int .i64 (x.made : Int), .slice ap x.plan.length cp, .bool x.dead] 30 (0, 0))) := (bk 0 (by omega)).trans R1.out
  have RC := hide ((bk 1 (by omega)).trans R2.out)
  have RB := hide ((bk 2 (by omega)).trans R3.out)
  clear bk
  obtain ⟨c0, c1, c2, c3, c4, c5, c6⟩ := CC.out _ RC.out
  have H2 : Hid (isD (grow K2 W1 W2) W2 (.agg #[.slice ao n cs, .slice al x.loose.length cl, .int .i64 (x.made : Int), .slice ap x.plan.length cp, .bool x.dead]) x) := H1.out.fr (F2.out.mono HKn.out)
  have HK3 : Hid (∀ g, grow K2 W1 W2 g → g < W2.heap.size) := grow_lt HK.out F2.out.size
  have FW : Hid (Fr T w W2) := (Fr.of_below (by have := HB.out; rw [← hgb] at this; exact this)).trans' F2.out
  have LP2 := hide (HP2.out W2 FW.out.ag)
  go_upto_region 36 with (go_at_call 22; refine (lplan_any (grow K2 W1 W2) P _ W2 LP2.out HPo.out.2 HK3.out).mono ?_; rintro e W3 ⟨v9, rfl, k9, b3⟩; obtain ⟨a9, c9, e9⟩ := k9.form; subst e9; have K9 := hide k9; have B3 := hide b3; have RA3 := hide ((b3.block _ (lt_heap RA.out)).trans RA.out); have RB3 := hide ((b3.block _ (lt_heap RB.out)).trans RB.out); clear k9 b3; have d3 : W3.cell? ⟨b0, 3, none⟩ = some (.slice ap x.plan.length cp) := (by rw [cell_of_row _ _ _ _ _ _ RA3.out]; rfl); have f3 := frozen_of_row _ _ 3 _ _ RA3.out)
  clear c0 c1 c2 c3 c4 c5 c6 d3 f3
  have R4 : Hid ((W3.setCell ⟨b0, 3, none⟩ (.slice a9 P.length c9)).heap[b0]? = some (.cells #[.slice ao n cs, .slice al x.loose.length cl, .int .i64 (x.made : Int), .slice a9 P.length c9, .bool x.dead] 30 (0, 0))) := heap_setCell_same W3 b0 3 _ _ _ RA3.out
  have RB4 : Hid ((W3.setCell ⟨b0, 3, none⟩ (.slice a9 P.length c9)).heap[b0 + 2]? = some (.cells (dcs (.slice none 0 0) (.slice none 0 0) 0 (.slice none 0 0) false) 30 (0, 0))) := (Below.heap_setCell _ _ _ _ (show b0 + 2 ≠ b0 by omega)).trans RB3.out
  have D4 : Hid (isD (grow K2 W1 W2) (W3.setCell ⟨b0, 3, none⟩ (.slice a9 P.length c9)) (.agg #[.slice ao n cs, .slice al x.loose.length cl, .int .i64 (x.made : Int), .slice a9 P.length c9, .bool x.dead]) { x with plan := P }) := by
    obtain ⟨vs, vl, vp, S, e, q⟩ := H2.out
    have e1 : vs = .slice ao n cs ∧ vl = .slice al x.loose.length cl ∧ vp = .slice ap x.plan.length cp := by
      unfold dcs at e
      simp only [Value.agg.injEq, Array.mk.injEq, List.cons.injEq] at e
      exact ⟨e.1.symm, e.2.1.symm, e.2.2.2.1.symm⟩
    obtain ⟨rfl, rfl, rfl⟩ := e1
    have fw := Fr.setCell (S := grow K2 W1 W2) W3 (p := ⟨b0, 3, none⟩) (.inl (HKo.out b0 (Nat.le_refl _) (by omega))) (.slice a9 P.length c9)
    exact ⟨_, _, _, S, rfl, (q.sure.below B3.out).write fw, q.rep, (q.loose.below B3.out).write fw, K9.out.write fw⟩
  have P4 : Hid (DK (W3.setCell ⟨b0, 3, none⟩ (.slice a9 P.length c9)) gd { x with plan := P } (grow T W1 W2)) := (D2.out.below B3.out).keep (by simp [World.setCell]) (fun g hg => Below.heap_setCell _ _ _ _ (fun e => by
    simp at e
    rcases hg with hg | ⟨hg, _⟩
    · have := HTb.out _ hg; omega
    · have := S3.out; omega))
  have F4 : Hid (Fr T w (W3.setCell ⟨b0, 3, none⟩ (.slice a9 P.length c9))) := by
    have h1 : Fr T w W3 := FW.out.trans' (Fr.of_below B3.out)
    exact ⟨h1.os, h1.tape, h1.output, by simp [World.setCell]; exact h1.size, fun k hk hn => (Below.heap_setCell _ _ _ _ (fun e => by simp at e; omega)).trans (h1.block k hk hn)⟩
  clear RA RB RC RA3 RB3 H2 D2 LP2 FW
  generalize (W3.setCell ⟨b0, 3, none⟩ (.slice a9 P.length c9)) = W4 at *
  refine wp_region_held_drew (S := fun W => W.heap[b0]? = some (.cells #[.slice ao n cs, .slice al x.loose.length cl, .int .i64 (x.made : Int), .slice a9 P.length c9, .bool x.dead] 30 (0, 0))) (by kernel_rfl) R4.out (fun hH => ?_)
  refine wpAnyH_take (i := 0) (v := .pointer (some ⟨gd, 0, none⟩)) rfl (by kernel_rfl) (by kernel_rfl) (by kernel_rfl) (fun _ _ _ h => h) (yl_move (by rfl) _ (by rfl) _ (by rfl)) hH ?_
  change wpAnyH _ _ _ _ _ _ _ (Act.put _ (some 160) _) _
  simp only [Act.put, List.setIfInBounds_toArray, List.set_cons_zero, List.set_cons_succ]
  refine wpAnyH_take (i := 1) (v := .agg #[.slice ao n cs, .slice al x.loose.length cl, .int .i64 (x.made : Int), .slice a9 P.length c9, .bool x.dead]) rfl (by kernel_rfl) (by kernel_rfl) (by kernel_rfl) (fun _ _ _ h => h) (yl_load (by rfl) _ (by rfl) _ _ (by rfl) (fun W hS => ld_row ADd rfl hS)) hH ?_
  change wpAnyH _ _ _ _ _ _ _ (Act.put _ (some 161) _) _
  simp only [Act.put, List.setIfInBounds_toArray, List.set_cons_zero, List.set_cons_succ]
  refine wpAnyH_take (i := 2) (v := .int .i64 0) rfl (by kernel_rfl) (by kernel_rfl) (by kernel_rfl) (fun _ _ _ h => h) (yl_move (by rfl) _ (by rfl) _ (by rfl)) hH ?_
  change wpAnyH _ _ _ _ _ _ _ (Act.put _ (some 162) _) _
  simp only [Act.put, List.setIfInBounds_toArray, List.set_cons_zero, List.set_cons_succ]
  refine wpAnyH_take (i := 3) (v := .int .i64 0) rfl (by kernel_rfl) (by kernel_rfl) (by kernel_rfl) (fun _ _ _ h => h) (yl_move (by rfl) _ (by rfl) _ (by rfl)) hH ?_
  change wpAnyH _ _ _ _ _ _ _ (Act.put _ (some 163) _) _
  simp only [Act.put, List.setIfInBounds_toArray, List.set_cons_zero, List.set_cons_succ]
  refine wpAnyH_take (i := 4) (v := .bool true) rfl (by kernel_rfl) (by kernel_rfl) (by kernel_rfl) (fun _ _ _ h => h) (.inl ⟨by rfl, fun W _ => by go_simp⟩) hH ?_
  change wpAnyH _ _ _ _ _ _ _ (Act.put _ (some 164) _) _
  simp only [Act.put, List.setIfInBounds_toArray, List.set_cons_zero, List.set_cons_succ]
  refine wpAnyH_take (i := 5) (v := .pointer (some ⟨gd, 0, none⟩)) rfl (by kernel_rfl) (by kernel_rfl) (by kernel_rfl) (fun _ _ _ h => h) (.inl ⟨by rfl, fun W _ => by go_simp⟩) hH ?_
  change wpAnyH _ _ _ _ _ _ _ (Act.put _ (some 6) _) _
  simp only [Act.put, List.setIfInBounds_toArray, List.set_cons_zero, List.set_cons_succ]
  have R5 : Hid (W4.drew.heap[b0]? = some (.cells #[.slice ao n cs, .slice al x.loose.length cl, .int .i64 (x.made : Int), .slice a9 P.length c9, .bool x.dead] 30 (0, 0))) := R4.out
  have RB5 : Hid (W4.drew.heap[b0 + 2]? = some (.cells (dcs (.slice none 0 0) (.slice none 0 0) 0 (.slice none 0 0) false) 30 (0, 0))) := RB4.out
  have D5 := hide (D4.out.next (Below.refl W4.heap.size W4).drew)
  have P5 := hide (P4.out.below (Below.refl W4.heap.size W4).drew)
  have F5 : Hid (Fr T w W4.drew) := F4.out.trans' (Fr.of_below (Below.refl W4.heap.size W4).drew)
  clear R4 RB4 D4 P4 F4
  generalize W4.drew = W5 at *
  refine wpAnyH_ready (rs := [6]) (by kernel_rfl) (by simp) (AllReadyH.cons rfl (fun K1 hK1 => ?_) AllReadyH.nil)
  refine stepStoreA ADd (by rfl) _ _ (by rfl) (b0 + 2) #[.slice ao n cs, .slice al x.loose.length cl, .int .i64 (x.made : Int), .slice a9 P.length c9, .bool x.dead] (by rfl) (by simp [Value.oneCell']) (by rfl) (by rfl) _ (by rfl) _ RB5.out ?_
  refine hK1.out _ _ ((setRow_other _ _ _ _ (by omega)).trans R5.out) (fun hH => ?_)
  clear hK1
  try simp only [Act.put]
  refine wpAnyH_take (i := 7) (v := .bool true) rfl (by kernel_rfl) (by kernel_rfl) (by kernel_rfl) (fun _ _ _ h => h) (.inl ⟨by rfl, fun W _ => by go_simp⟩) hH ?_
  change wpAnyH _ _ _ _ _ _ _ (Act.put _ (some 8) _) _
  simp only [Act.put, List.setIfInBounds_toArray, List.set_cons_zero, List.set_cons_succ]
  refine wpAnyH_done (by kernel_rfl) ?_ _
  go_wp2
  refine bodyPost_ret (res3b ADd Try.results6 _ _ (b0 + 2) 30 _ rfl (by rfl) (setRow_heap _ _ _ _ _ _ RB5.out) _ (by rfl) _ (by rfl)) rfl ?_
  refine ⟨gd, { x with plan := P }, grow T W1 W2, _, rfl, P5.out.keep (by simp) (fun g hg => setRow_other _ _ _ _ (fun e => by
    subst e
    rcases hg with hg | ⟨hg, _⟩
    · have := HTb.out _ hg; omega
    · have := S3.out; omega)), (D5.out.write (Fr.setRow W5 (.inl (HKo.out (b0 + 2) (by omega) (by omega))) _)).mono (fun g hg => ?_), (HG.out.pl HPo.out.1 HPo.out.2).more (by omega), F5.out.newRow (by omega) _, fun g hg => ?_⟩
  · rcases hg with (hg | hg) | hg
    · exact .inl (HKn.out g hg)
    · exact .inr hg
    · exact .inl (HKk.out g hg)
  · rcases hg with hg | ⟨hg, _⟩
    · exact .inl hg
    · right
      have := S3.out
      omega
theorem one_9 (c : Int) (hc0 : c ≠ 0) (hc1 : c ≠ 1) (hc2 : c ≠ 2) (hc3 : c ≠ 3) (hc4 : c ≠ 4) (hc5 : c ≠ 5) (hc6 : c ≠ 6) (hc7 : c ≠ 7) (hc8 : c ≠ 8) (h : DK w gd x T) (hm : isD K w mv x) (hTK : ∀ g, T g → K g) (hKl : ∀ g, K g → g < w.heap.size) (G : Gd x nn) (hnn : nn ≤ 9000) (atv nv : Int) (nm tn s : ByteArray) (pa : Option Addr) (pn pc : Nat) (ha1 : -9223372036854775808 ≤ atv) (ha2 : atv < 9223372036854775808) (hn1 : -9223372036854775808 ≤ nv) (hn2 : nv < 9223372036854775808) (hs1 : nm.size ≤ maxLen) (hs2 : tn.size ≤ maxLen) (hs3 : s.size ≤ maxLen) : Calls Try.prog 6 #[.pointer (some ⟨gd, 0, none⟩), mv, .agg #[.int .i64 c, .int .i64 atv, .int .i64 nv, .string nm, .string tn, .string s, .slice pa pn pc]] w (OneP w K T (nn + 1)) := by
  have hb0 : (c == (0 : Int)) = false := by simpa using hc0
  have hb1 : (c == (1 : Int)) = false := by simpa using hc1
  have hb2 : (c == (2 : Int)) = false := by simpa using hc2
  have hb3 : (c == (3 : Int)) = false := by simpa using hc3
  have hb4 : (c == (4 : Int)) = false := by simpa using hc4
  have hb5 : (c == (5 : Int)) = false := by simpa using hc5
  have hb6 : (c == (6 : Int)) = false := by simpa using hc6
  have hb7 : (c == (7 : Int)) = false := by simpa using hc7
  have hb8 : (c == (8 : Int)) = false := by simpa using hc8
  have HTl : ∀ g, T g → g < w.heap.size := h.lt
  have HMv := hide hm
  have HTKk := hide hTK
  obtain ⟨ao, n, cs, al, cl, ap, cp, rfl⟩ := hm.form
  have s1 : (w.alloc (.cells #[.slice ao n cs, .slice al x.loose.length cl, .int .i64 (x.made : Int), .slice ap x.plan.length cp, .bool x.dead] 30)).heap.size = w.heap.size + 1 := by simp
  have s2 : ((w.alloc (.cells #[.slice ao n cs, .slice al x.loose.length cl, .int .i64 (x.made : Int), .slice ap x.plan.length cp, .bool x.dead] 30)).alloc (.cells #[.int .i64 c, .int .i64 atv, .int .i64 nv, .string nm, .string tn, .string s, .slice pa pn pc] 35)).heap.size = w.heap.size + 2 := by simp
  have s3 : (((w.alloc (.cells #[.slice ao n cs, .slice al x.loose.length cl, .int .i64 (x.made : Int), .slice ap x.plan.length cp, .bool x.dead] 30)).alloc (.cells #[.int .i64 c, .int .i64 atv, .int .i64 nv, .string nm, .string tn, .string s, .slice pa pn pc] 35)).alloc (.cells (dcs (.slice none 0 0) (.slice none 0 0) 0 (.slice none 0 0) false) 30)).heap.size = w.heap.size + 3 := by simp
  have r1 : (((w.alloc (.cells #[.slice ao n cs, .slice al x.loose.length cl, .int .i64 (x.made : Int), .slice ap x.plan.length cp, .bool x.dead] 30)).alloc (.cells #[.int .i64 c, .int .i64 atv, .int .i64 nv, .string nm, .string tn, .string s, .slice pa pn pc] 35)).alloc (.cells (dcs (.slice none 0 0) (.slice none 0 0) 0 (.slice none 0 0) false) 30)).heap[w.heap.size]? = some (.cells #[.slice ao n cs, .slice al x.loose.length cl, .int .i64 (x.made : Int), .slice ap x.plan.length cp, .bool x.dead] 30 (0, 0)) := (Below.heap_alloc _ _ _ (by rw [s2]; omega)).trans ((Below.heap_alloc _ _ _ (by rw [s1]; omega)).trans (heap_alloc_last w _))
  have r2 : (((w.alloc (.cells #[.slice ao n cs, .slice al x.loose.length cl, .int .i64 (x.made : Int), .slice ap x.plan.length cp, .bool x.dead] 30)).alloc (.cells #[.int .i64 c, .int .i64 atv, .int .i64 nv, .string nm, .string tn, .string s, .slice pa pn pc] 35)).alloc (.cells (dcs (.slice none 0 0) (.slice none 0 0) 0 (.slice none 0 0) false) 30)).heap[w.heap.size + 1]? = some (.cells #[.int .i64 c, .int .i64 atv, .int .i64 nv, .string nm, .string tn, .string s, .slice pa pn pc] 35 (0, 0)) := by
    have := heap_alloc_last (w.alloc (.cells #[.slice ao n cs, .slice al x.loose.length cl, .int .i64 (x.made : Int), .slice ap x.plan.length cp, .bool x.dead] 30)) (.cells #[.int .i64 c, .int .i64 atv, .int .i64 nv, .string nm, .string tn, .string s, .slice pa pn pc] 35)
    rw [s1] at this
    exact (Below.heap_alloc _ _ _ (by rw [s2]; omega)).trans this
  have r3 : (((w.alloc (.cells #[.slice ao n cs, .slice al x.loose.length cl, .int .i64 (x.made : Int), .slice ap x.plan.length cp, .bool x.dead] 30)).alloc (.cells #[.int .i64 c, .int .i64 atv, .int .i64 nv, .string nm, .string tn, .string s, .slice pa pn pc] 35)).alloc (.cells (dcs (.slice none 0 0) (.slice none 0 0) 0 (.slice none 0 0) false) 30)).heap[w.heap.size + 2]? = some (.cells (dcs (.slice none 0 0) (.slice none 0 0) 0 (.slice none 0 0) false) 30 (0, 0)) := by
    have := heap_alloc_last ((w.alloc (.cells #[.slice ao n cs, .slice al x.loose.length cl, .int .i64 (x.made : Int), .slice ap x.plan.length cp, .bool x.dead] 30)).alloc (.cells #[.int .i64 c, .int .i64 atv, .int .i64 nv, .string nm, .string tn, .string s, .slice pa pn pc] 35)) (.cells (dcs (.slice none 0 0) (.slice none 0 0) 0 (.slice none 0 0) false) 30)
    rw [s2] at this
    exact this
  have hB : Below w.heap.size w (((w.alloc (.cells #[.slice ao n cs, .slice al x.loose.length cl, .int .i64 (x.made : Int), .slice ap x.plan.length cp, .bool x.dead] 30)).alloc (.cells #[.int .i64 c, .int .i64 atv, .int .i64 nv, .string nm, .string tn, .string s, .slice pa pn pc] 35)).alloc (.cells (dcs (.slice none 0 0) (.slice none 0 0) 0 (.slice none 0 0) false) 30)) := (((Below.refl w.heap.size w).alloc (Nat.le_refl _) _).alloc (by rw [s1]; omega) _).alloc (by rw [s2]; omega) _
  have HB := hide hB
  have R1 := hide r1
  have R2 := hide r2
  have R3 := hide r3
  have S3 := hide s3
  have D1 := hide (h.below hB)
  have H1 := hide (hm.up hB)
  have HT := hide HTl
  have HK : Hid (∀ g, grow K w (((w.alloc (.cells #[.slice ao n cs, .slice al x.loose.length cl, .int .i64 (x.made : Int), .slice ap x.plan.length cp, .bool x.dead] 30)).alloc (.cells #[.int .i64 c, .int .i64 atv, .int .i64 nv, .string nm, .string tn, .string s, .slice pa pn pc] 35)).alloc (.cells (dcs (.slice none 0 0) (.slice none 0 0) 0 (.slice none 0 0) false) 30)) g → g < (((w.alloc (.cells #[.slice ao n cs, .slice al x.loose.length cl, .int .i64 (x.made : Int), .slice ap x.plan.length cp, .bool x.dead] 30)).alloc (.cells #[.int .i64 c, .int .i64 atv, .int .i64 nv, .string nm, .string tn, .string s, .slice pa pn pc] 35)).alloc (.cells (dcs (.slice none 0 0) (.slice none 0 0) 0 (.slice none 0 0) false) 30)).heap.size) := grow_lt hKl hB.size
  have HKn : Hid (∀ g, T g → grow K w (((w.alloc (.cells #[.slice ao n cs, .slice al x.loose.length cl, .int .i64 (x.made : Int), .slice ap x.plan.length cp, .bool x.dead] 30)).alloc (.cells #[.int .i64 c, .int .i64 atv, .int .i64 nv, .string nm, .string tn, .string s, .slice pa pn pc] 35)).alloc (.cells (dcs (.slice none 0 0) (.slice none 0 0) 0 (.slice none 0 0) false) 30)) g) := fun g hg => .inl (hTK g hg)
  have HKk : Hid (∀ g, K g → grow K w (((w.alloc (.cells #[.slice ao n cs, .slice al x.loose.length cl, .int .i64 (x.made : Int), .slice ap x.plan.length cp, .bool x.dead] 30)).alloc (.cells #[.int .i64 c, .int .i64 atv, .int .i64 nv, .string nm, .string tn, .string s, .slice pa pn pc] 35)).alloc (.cells (dcs (.slice none 0 0) (.slice none 0 0) 0 (.slice none 0 0) false) 30)) g) := fun g hg => .inl hg
  have HKo : Hid (∀ g, w.heap.size ≤ g → g < w.heap.size + 3 → grow K w (((w.alloc (.cells #[.slice ao n cs, .slice al x.loose.length cl, .int .i64 (x.made : Int), .slice ap x.plan.length cp, .bool x.dead] 30)).alloc (.cells #[.int .i64 c, .int .i64 atv, .int .i64 nv, .string nm, .string tn, .string s, .slice pa pn pc] 35)).alloc (.cells (dcs (.slice none 0 0) (.slice none 0 0) 0 (.slice none 0 0) false) 30)) g) := fun g h1 h2 => .inr ⟨h1, by rw [s3]; omega⟩
  have HG := hide G
  have HX := hide (And.intro ha1 (And.intro ha2 (And.intro hn1 (And.intro hn2 (And.intro hs1 (And.intro hs2 (And.intro hs3 hnn)))))))
  clear hB r1 r2 r3 s3 h hm hTK hKl G HTl ha1 ha2 hn1 hn2 hs1 hs2 hs3 hnn
  generalize grow K w (((w.alloc (.cells #[.slice ao n cs, .slice al x.loose.length cl, .int .i64 (x.made : Int), .slice ap x.plan.length cp, .bool x.dead] 30)).alloc (.cells #[.int .i64 c, .int .i64 atv, .int .i64 nv, .string nm, .string tn, .string s, .slice pa pn pc] 35)).alloc (.cells (dcs (.slice none 0 0) (.slice none 0 0) 0 (.slice none 0 0) false) 30)) = K2 at *
  go_enter Try.func6, Try.ntmps6
  go_upto_region 1 with ((with_reducible refine at_list ?_); first | refine wpList_boxA rfl _ rfl _ rfl ?_ | refine wpList_allocA ADd rfl rfl ?_)
  try rw [s2]
  try rw [s1]
  clear s1 s2
  generalize (((w.alloc (.cells #[.slice ao n cs, .slice al x.loose.length cl, .int .i64 (x.made : Int), .slice ap x.plan.length cp, .bool x.dead] 30)).alloc (.cells #[.int .i64 c, .int .i64 atv, .int .i64 nv, .string nm, .string tn, .string s, .slice pa pn pc] 35)).alloc (.cells (dcs (.slice none 0 0) (.slice none 0 0) 0 (.slice none 0 0) false) 30)) = W1 at *
  generalize hgb : w.heap.size = b0 at *
  have CC : Hid (∀ W : World, W.heap[b0 + 1]? = some (.cells #[.int .i64 c, .int .i64 atv, .int .i64 nv, .string nm, .string tn, .string s, .slice pa pn pc] 35 (0, 0)) → W.cell? ⟨b0 + 1, 0, none⟩ = some (.int .i64 c) ∧ W.cell? ⟨b0 + 1, 1, none⟩ = some (.int .i64 atv) ∧ W.cell? ⟨b0 + 1, 2, none⟩ = some (.int .i64 nv) ∧ W.cell? ⟨b0 + 1, 3, none⟩ = some (.string nm) ∧ W.cell? ⟨b0 + 1, 4, none⟩ = some (.string tn) ∧ W.cell? ⟨b0 + 1, 5, none⟩ = some (.string s) ∧ W.cell? ⟨b0 + 1, 6, none⟩ = some (.slice pa pn pc)) := fun W e => by
    refine ⟨?_, ?_, ?_, ?_, ?_, ?_, ?_⟩ <;> (rw [cell_of_row _ _ _ _ _ _ e]; rfl)
  obtain ⟨c0, c1, c2, c3, c4, c5, c6⟩ := CC.out _ R2.out
  have HTb : Hid (∀ g, T g → g < b0) := HT.out
  have GW := hide (HG.out.ma (by have := HX.out.2.2.2.2.2.2.2; omega) (kd := 0) (nm := ⟨#[111, 116, 104, 101, 114]⟩) (tn := ⟨#[]⟩) (s := ⟨#[120]⟩) (k := 0) (by omega) (fun _ => rfl) (fun h => absurd rfl h) (fun h => by omega))
  go_upto_region 4 with (go_at_call 23; refine (dclone_any gd x T W1 D1.out HG.out.vd HG.out.pz).mono ?_; rintro e W2 ⟨g9, rfl, d2, b2⟩; have D2 := hide d2; have B2 := hide b2; clear d2 b2)
  clear c0 c1 c2 c3 c4 c5 c6 hb0 hb1 hb2 hb3 hb4 hb5 hb6 hb7 hb8 hc0 hc1 hc2 hc3 hc4 hc5 hc6 hc7 hc8
  have DD2 := hide (D1.out.below B2.out)
  go_upto_region 5 with (go_at_call 8; refine (pwrite_all ⟨#[111, 116, 104, 101, 114]⟩ 0 ⟨#[120]⟩ DD2.out HG.out.vd HG.out.plan (by decide) (by decide) (by decide) (by decide) (by have := HG.out.many; have := HX.out.2.2.2.2.2.2.2; omega) (by have := HG.out.made; have := HX.out.2.2.2.2.2.2.2; omega)).mono ?_; rintro e W3 ⟨rfl, d3, f3⟩; have D3 := hide d3; have F3 := hide f3; clear d3 f3)
  generalize maE x 0 ⟨#[111, 116, 104, 101, 114]⟩ ⟨#[]⟩ 0 ⟨#[120]⟩ = e0 at *
  generalize maS x 0 ⟨#[111, 116, 104, 101, 114]⟩ ⟨#[]⟩ 0 ⟨#[120]⟩ = x3 at *
  go_upto_region 6 with (go_at_call 11; refine (crash_any gd x3 (grow T W2 W3) 0 0 W3 D3.out GW.out.vd (by decide) (by decide)).mono ?_; rintro e W4 ⟨⟨r, rfl⟩, d4, f4⟩; have F4 := hide f4; clear d4 f4)
  have FW : Hid (Fr T w W4) := by
    have h1 : Fr T w W2 := (Fr.of_below (by have := HB.out; rw [← hgb] at this; exact this)).trans' (Fr.of_below B2.out)
    have h2 : Fr T W2 W4 := F3.out.trans F4.out
    exact h1.trans' h2
  have same : ∀ k, k < W2.heap.size → ¬ T k → W4.heap[k]? = W2.heap[k]? := fun k hk hn => (F3.out.trans F4.out).block k hk hn
  have bk : ∀ j, j < 3 → W4.heap[b0 + j]? = W1.heap[b0 + j]? := fun j hj => (same _ (by have := S3.out; have := B2.out.size; omega) (fun c => by have := HTb.out _ c; omega)).trans (B2.out.block _ (by have := S3.out; omega))
  have R4 : Hid (W4.heap[b0]? = some (.cells #[.slice ao n cs, .slice al x.loose.length cl, .int .i64 (x.made : Int), .slice ap x.plan.length cp, .bool x.dead] 30 (0, 0))) := (bk 0 (by omega)).trans R1.out
  have RB4 : Hid (W4.heap[b0 + 2]? = some (.cells (dcs (.slice none 0 0) (.slice none 0 0) 0 (.slice none 0 0) false) 30 (0, 0))) := (bk 2 (by omega)).trans R3.out
  have P4 : Hid (DK W4 g9 x (fun g => W1.heap.size ≤ g ∧ g < W2.heap.size)) := D2.out.keep (by have := (F3.out.trans F4.out).size; exact this) (fun g hg => same g hg.2 (fun c => by have := HTb.out _ c; have := S3.out; omega))
  have D4 : Hid (isD (fun g => (W1.heap.size ≤ g ∧ g < W2.heap.size ∨ b0 ≤ g ∧ g < b0 + 3) ∨ K g) W4 (.agg #[.slice ao n cs, .slice al x.loose.length cl, .int .i64 (x.made : Int), .slice ap x.plan.length cp, .bool x.dead]) x) := HMv.out.hop FW.out.ag HTKk.out (fun g hg => by
    rw [hgb]
    rcases hg with hg | hg
    · have := S3.out; omega
    · exact hg.1)
  clear bk same R1 R2 R3 D1 D2 D3 DD2 F3 F4
  refine wp_region_held_drew (S := fun W => W.heap[b0]? = some (.cells #[.slice ao n cs, .slice al x.loose.length cl, .int .i64 (x.made : Int), .slice ap x.plan.length cp, .bool x.dead] 30 (0, 0))) (by kernel_rfl) R4.out (fun hH => ?_)
  refine wpAnyH_take (i := 0) (v := .pointer (some ⟨g9, 0, none⟩)) rfl (by kernel_rfl) (by kernel_rfl) (by kernel_rfl) (fun _ _ _ h => h) (yl_move (by rfl) _ (by rfl) _ (by rfl)) hH ?_
  change wpAnyH _ _ _ _ _ _ _ (Act.put _ (some 22) _) _
  simp only [Act.put, List.setIfInBounds_toArray, List.set_cons_zero, List.set_cons_succ]
  refine wpAnyH_take (i := 1) (v := .agg #[.slice ao n cs, .slice al x.loose.length cl, .int .i64 (x.made : Int), .slice ap x.plan.length cp, .bool x.dead]) rfl (by kernel_rfl) (by kernel_rfl) (by kernel_rfl) (fun _ _ _ h => h) (yl_load (by rfl) _ (by rfl) _ _ (by rfl) (fun W hS => ld_row ADd rfl hS)) hH ?_
  change wpAnyH _ _ _ _ _ _ _ (Act.put _ (some 23) _) _
  simp only [Act.put, List.setIfInBounds_toArray, List.set_cons_zero, List.set_cons_succ]
  refine wpAnyH_take (i := 2) (v := .pointer (some ⟨g9, 0, none⟩)) rfl (by kernel_rfl) (by kernel_rfl) (by kernel_rfl) (fun _ _ _ h => h) (yl_move (by rfl) _ (by rfl) _ (by rfl)) hH ?_
  change wpAnyH _ _ _ _ _ _ _ (Act.put _ (some 24) _) _
  simp only [Act.put, List.setIfInBounds_toArray, List.set_cons_zero, List.set_cons_succ]
  refine wpAnyH_take (i := 3) (v := .bool true) rfl (by kernel_rfl) (by kernel_rfl) (by kernel_rfl) (fun _ _ _ h => h) (.inl ⟨by rfl, fun W _ => by go_simp⟩) hH ?_
  change wpAnyH _ _ _ _ _ _ _ (Act.put _ (some 25) _) _
  simp only [Act.put, List.setIfInBounds_toArray, List.set_cons_zero, List.set_cons_succ]
  refine wpAnyH_take (i := 4) (v := .pointer (some ⟨g9, 0, none⟩)) rfl (by kernel_rfl) (by kernel_rfl) (by kernel_rfl) (fun _ _ _ h => h) (.inl ⟨by rfl, fun W _ => by go_simp⟩) hH ?_
  change wpAnyH _ _ _ _ _ _ _ (Act.put _ (some 6) _) _
  simp only [Act.put, List.setIfInBounds_toArray, List.set_cons_zero, List.set_cons_succ]
  have R5 : Hid (W4.drew.heap[b0]? = some (.cells #[.slice ao n cs, .slice al x.loose.length cl, .int .i64 (x.made : Int), .slice ap x.plan.length cp, .bool x.dead] 30 (0, 0))) := R4.out
  have RB5 : Hid (W4.drew.heap[b0 + 2]? = some (.cells (dcs (.slice none 0 0) (.slice none 0 0) 0 (.slice none 0 0) false) 30 (0, 0))) := RB4.out
  have D5 := hide (D4.out.next (Below.refl W4.heap.size W4).drew)
  have P5 := hide (P4.out.below (Below.refl W4.heap.size W4).drew)
  have F5 : Hid (Fr T w W4.drew) := FW.out.trans' (Fr.of_below (Below.refl W4.heap.size W4).drew)
  clear R4 RB4 D4 P4 FW
  generalize W4.drew = W5 at *
  refine wpAnyH_ready (rs := [5]) (by kernel_rfl) (by simp) (AllReadyH.cons rfl (fun K1 hK1 => ?_) AllReadyH.nil)
  refine stepStoreA ADd (by rfl) _ _ (by rfl) (b0 + 2) #[.slice ao n cs, .slice al x.loose.length cl, .int .i64 (x.made : Int), .slice ap x.plan.length cp, .bool x.dead] (by rfl) (by simp [Value.oneCell']) (by rfl) (by rfl) _ (by rfl) _ RB5.out ?_
  refine hK1.out _ _ ((setRow_other _ _ _ _ (by omega)).trans R5.out) (fun hH => ?_)
  clear hK1
  try simp only [Act.put]
  refine wpAnyH_take (i := 6) (v := .bool true) rfl (by kernel_rfl) (by kernel_rfl) (by kernel_rfl) (fun _ _ _ h => h) (.inl ⟨by rfl, fun W _ => by go_simp⟩) hH ?_
  change wpAnyH _ _ _ _ _ _ _ (Act.put _ (some 8) _) _
  simp only [Act.put, List.setIfInBounds_toArray, List.set_cons_zero, List.set_cons_succ]
  refine wpAnyH_done (by kernel_rfl) ?_ _
  go_wp2
  refine bodyPost_ret (res3b ADd Try.results6 _ _ (b0 + 2) 30 _ rfl (by rfl) (setRow_heap _ _ _ _ _ _ RB5.out) _ (by rfl) _ (by rfl)) rfl ?_
  refine ⟨g9, x, fun g => W1.heap.size ≤ g ∧ g < W2.heap.size, _, rfl, P5.out.keep (by simp) (fun g hg => setRow_other _ _ _ _ (fun e => by subst e; have := S3.out; omega)), (D5.out.write (Fr.setRow W5 (.inl (.inr ⟨by omega, by omega⟩)) _)).mono (fun g hg => hg.elim (fun c => .inl (.inl c)) (fun c => .inr c)), HG.out.more (by omega), F5.out.newRow (by omega) _, fun g hg => .inr (by have := S3.out; omega)⟩
end
end Go.Proofs.Ythnfpdmhjennlaa
