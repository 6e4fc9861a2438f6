/- The law's says: what a disk says. -/
import Derived.Test.YthnfpdmhjennlaaV35
import Derived.Lib.OwnBridge
namespace Go.Proofs.Ythnfpdmhjennlaa
open Go.RowKit
open Go.Deep
open Go.Lib
set_option linter.unusedVariables false
set_option linter.unusedSimpArgs false
def KSt : Ek ByteArray := ⟨62, 9, 1, 16, fun s => [.string s], by decide, by decide, Try.underlying62, by kernel_rfl, fun _ => rfl, fun x v hv => by
  rw [List.mem_singleton.1 hv]
  rfl⟩
theorem flat_St (L : List ByteArray) : flatE KSt L = L.map Value.string := by
  unfold flatE
  induction L with
  | nil => rfl
  | cons a r ih => rw [List.map_cons, List.flatten_cons, ih]; rfl
theorem names_ox {W : World} {B : Nat} {v : Value} {f : FS} {L : List Fi} {ks : List (List UInt8)} (hr : Rep L f) (hn : Nms f ks) (h : W.ownsRow B 9 1 v ks.length ((ks.mergeSort (fun x y => decide (x ≤ y))).map encStr)) : OX KSt W v (L.map fun x => x.nm) := by
  have e := hr.names hn
  have hl : ks.length = (L.map fun x => x.nm).length := by
    have := congrArg List.length e
    rw [List.length_mergeSort, List.length_map] at this
    rw [this, List.length_map]
  rw [e, show (L.map fun x => ls x.nm) = ((L.map fun x => x.nm).map (·.data.toList)) by rw [List.map_map]; rfl, Go.Lib.map_encStr, hl, ← flat_St] at h
  exact owns_lower h (Nat.zero_le _)
theorem run_mid (s : ByteArray) (a b : Nat) (h : a ≤ b) (hb : b ≤ s.size) (W : World) : (Instr.sliceAt 9 (.string s) (some (.int .i64 (a : Int))) (some (.int .i64 (b : Int))) none).run Try.prog W = .ok (.string (s.extract a b)) W := by
  simp [Instr.sliceAt, Instr.slice, run_underlying Try.underlying9, Instr.sliceBounds, Instr.sliceBound, asIntOf, h, hb, Result.andThen]
theorem ex_slM {w : World} {o : Oper} {a : Act} (x y z : Operand) {t : TypeId} (ho : o.op = .slice t x (some y) (some z) none) {vx vy vz r : Value} (hx : a.eval x = vx) (hy : a.eval y = vy) (hz : a.eval z = vz) (hr : (Instr.sliceAt t vx (some vy) (some vz) none).run Try.prog w = .ok r w) : (execOp a.eval o).run Try.prog w = .ok (.value r) w := by
  unfold execOp
  simp only [ho, hx, hy, hz, Option.map_some, Option.map_none, hr, Sem.run_bind, Result.andThen_ok, Sem.run_pure]
section
set_option maxRecDepth 10000
set_option maxHeartbeats 16000000
variable {gd nn : Nat} {x : St} {T : Nat → Prop} {mv : Value} {w : World}
theorem says_any (h : DK w gd x T) (hm : isD T w mv x) (G : Gd x nn) (kv atv nv : Int) (nm tn s : ByteArray) (pa : Option Addr) (pn pc : Nat) (hs1 : nm.size ≤ maxLen) : Calls Try.prog 7 #[.pointer (some ⟨gd, 0, none⟩), mv, .agg #[.int .i64 kv, .int .i64 atv, .int .i64 nv, .string nm, .string tn, .string s, .slice pa pn pc]] w fun e w' => e = .returned (.bool true) ∧ Below w.heap.size w w' := by
  have HTl : ∀ g, T g → g < w.heap.size := h.lt
  obtain ⟨ao, n, cs, al, cl, ap, cp, rfl⟩ := hm.form
  obtain ⟨S1, S2, mn, ms, vo, vp, hdp⟩ := h
  have dc5 := hdp.cell 5 (by decide)
  have glt := hdp.lt gd hdp.tg
  have h : DK w gd x T := ⟨S1, S2, mn, ms, vo, vp, hdp⟩
  have s1 : (w.alloc (.cells #[.slice ao n cs, .slice al x.loose.length cl, .int .i64 (x.made : Int), .slice ap x.plan.length cp, .bool x.dead] 30)).heap.size = w.heap.size + 1 := by simp
  have r1 : ((w.alloc (.cells #[.slice ao n cs, .slice al x.loose.length cl, .int .i64 (x.made : Int), .slice ap x.plan.length cp, .bool x.dead] 30)).alloc (.cells #[.int .i64 kv, .int .i64 atv, .int .i64 nv, .string nm, .string tn, .string s, .slice pa pn pc] 35)).heap[w.heap.size]? = some (.cells #[.slice ao n cs, .slice al x.loose.length cl, .int .i64 (x.made : Int), .slice ap x.plan.length cp, .bool x.dead] 30 (0, 0)) := (Below.heap_alloc _ _ _ (by rw [s1]; omega)).trans (heap_alloc_last w _)
  have r2 : ((w.alloc (.cells #[.slice ao n cs, .slice al x.loose.length cl, .int .i64 (x.made : Int), .slice ap x.plan.length cp, .bool x.dead] 30)).alloc (.cells #[.int .i64 kv, .int .i64 atv, .int .i64 nv, .string nm, .string tn, .string s, .slice pa pn pc] 35)).heap[w.heap.size + 1]? = some (.cells #[.int .i64 kv, .int .i64 atv, .int .i64 nv, .string nm, .string tn, .string s, .slice pa pn pc] 35 (0, 0)) := by
    have := heap_alloc_last (w.alloc (.cells #[.slice ao n cs, .slice al x.loose.length cl, .int .i64 (x.made : Int), .slice ap x.plan.length cp, .bool x.dead] 30)) (.cells #[.int .i64 kv, .int .i64 atv, .int .i64 nv, .string nm, .string tn, .string s, .slice pa pn pc] 35)
    rw [s1] at this
    exact this
  have hB : Below w.heap.size w ((w.alloc (.cells #[.slice ao n cs, .slice al x.loose.length cl, .int .i64 (x.made : Int), .slice ap x.plan.length cp, .bool x.dead] 30)).alloc (.cells #[.int .i64 kv, .int .i64 atv, .int .i64 nv, .string nm, .string tn, .string s, .slice pa pn pc] 35)) := ((Below.refl w.heap.size w).alloc (Nat.le_refl _) _).alloc (by rw [s1]; omega) _
  have HB := hide hB
  have D1 := hide (h.below hB)
  have DC := hide ((hB.cell (p := ⟨gd, 5, none⟩) glt).trans dc5)
  have GLT := hide (Nat.lt_of_lt_of_le glt hB.size)
  have H1 := hide (hm.next hB)
  have HK : Hid (∀ g, T g → g < ((w.alloc (.cells #[.slice ao n cs, .slice al x.loose.length cl, .int .i64 (x.made : Int), .slice ap x.plan.length cp, .bool x.dead] 30)).alloc (.cells #[.int .i64 kv, .int .i64 atv, .int .i64 nv, .string nm, .string tn, .string s, .slice pa pn pc] 35)).heap.size) := fun g hg => Nat.lt_of_lt_of_le (HTl g hg) hB.size
  have HG := hide G
  have HS := hide hs1
  have CC : Hid (∀ W, Below ((w.alloc (.cells #[.slice ao n cs, .slice al x.loose.length cl, .int .i64 (x.made : Int), .slice ap x.plan.length cp, .bool x.dead] 30)).alloc (.cells #[.int .i64 kv, .int .i64 atv, .int .i64 nv, .string nm, .string tn, .string s, .slice pa pn pc] 35)).heap.size ((w.alloc (.cells #[.slice ao n cs, .slice al x.loose.length cl, .int .i64 (x.made : Int), .slice ap x.plan.length cp, .bool x.dead] 30)).alloc (.cells #[.int .i64 kv, .int .i64 atv, .int .i64 nv, .string nm, .string tn, .string s, .slice pa pn pc] 35)) W → W.heap[w.heap.size]? = some (.cells #[.slice ao n cs, .slice al x.loose.length cl, .int .i64 (x.made : Int), .slice ap x.plan.length cp, .bool x.dead] 30 (0, 0)) ∧ W.heap[w.heap.size + 1]? = some (.cells #[.int .i64 kv, .int .i64 atv, .int .i64 nv, .string nm, .string tn, .string s, .slice pa pn pc] 35 (0, 0)) ∧ W.cell? ⟨w.heap.size + 1, 1, none⟩ = some (.int .i64 atv) ∧ W.cell? ⟨w.heap.size + 1, 2, none⟩ = some (.int .i64 nv) ∧ W.cell? ⟨w.heap.size + 1, 3, none⟩ = some (.string nm) ∧ W.cell? ⟨w.heap.size, 4, none⟩ = some (.bool x.dead)) := fun W b => by
    have e1 := (b.block _ (lt_heap r1)).trans r1
    have e2 := (b.block _ (lt_heap r2)).trans r2
    refine ⟨e1, e2, ?_, ?_, ?_, ?_⟩
    · rw [cell_of_row _ _ _ _ _ _ e2]; rfl
    · rw [cell_of_row _ _ _ _ _ _ e2]; rfl
    · rw [cell_of_row _ _ _ _ _ _ e2]; rfl
    · rw [cell_of_row _ _ _ _ _ _ e1]; rfl
  clear hB r1 r2 h hm G HTl hs1 dc5 glt hdp
  go_enter Try.func7, Try.ntmps7
  go_upto_region 1 with fail
  try rw [s1]
  clear s1
  generalize ((w.alloc (.cells #[.slice ao n cs, .slice al x.loose.length cl, .int .i64 (x.made : Int), .slice ap x.plan.length cp, .bool x.dead] 30)).alloc (.cells #[.int .i64 kv, .int .i64 atv, .int .i64 nv, .string nm, .string tn, .string s, .slice pa pn pc] 35)) = W1 at *
  generalize hgb : w.heap.size = b0 at *
  have R1 := hide (CC.out _ (Below.refl _ _)).1
  go_upto_region 2 with (first | ((with_reducible refine at_list ?_); refine wpList_loadA ADd rfl _ rfl b0 rfl _ rfl _ R1.out ?_) | (go_at_call 24; refine (rfiles_any T x _ _ H1.out HG.out.vd HK.out).mono ?_; rintro e W2 ⟨v2, L, rfl, k2, q2, b2⟩; have K2 := hide k2; have Q2 := hide q2; have B2 := hide b2; clear k2 q2 b2))
  have HL := hide (show L.length ≤ 64 by rw [← Q2.out.n]; exact HG.out.vd.bd2.n)
  obtain ⟨a2, c2, rfl⟩ := K2.out.form
  go_upto_region 3 with (go_at_call 25; refine (names_any gd x T W2 (D1.out.below B2.out) (by have := HG.out.vd.bd2.n; omega)).mono ?_; rintro e W3 ⟨v8, ks, rfl, hn8, o8, b3⟩; have O8 := hide (names_ox Q2.out hn8 o8); have B3 := hide (below_next B2.out b3); have LX2 := hide (K2.out.now.below b3); clear hn8 o8 b3)
  obtain ⟨a8, c8, rfl⟩ := O8.out.form
  rw [List.length_map]
  have D3 := hide (D1.out.below B3.out)
  have dc3 : Hid (∀ W, Below W1.heap.size W1 W → W.cell? ⟨gd, 5, none⟩ = some (.bool x.dead)) := fun W b => (b.cell (p := ⟨gd, 5, none⟩) GLT.out).trans DC.out
  clear R1 D1
  have DM := hide (H1.out.next B3.out)
  have FRR : Hid (∀ W, Below W3.heap.size W3 W → W.heap[b0]? = some (.cells #[.slice ao n cs, .slice al x.loose.length cl, .int .i64 (x.made : Int), .slice ap x.plan.length cp, .bool x.dead] 30 (0, 0)) ∧ W.cell? ⟨b0, 0, none⟩ = some (.slice ao n cs) ∧ W.cell? ⟨b0, 1, none⟩ = some (.slice al x.loose.length cl) ∧ W.cell? ⟨b0, 2, none⟩ = some (.int .i64 (x.made : Int)) ∧ W.cell? ⟨b0, 4, none⟩ = some (.bool x.dead)) := fun W b => by
    have e1 := (CC.out W (below_next B3.out b)).1
    refine ⟨e1, ?_, ?_, ?_, ?_⟩ <;> (rw [cell_of_row _ _ _ _ _ _ e1]; rfl)
  have HCh := hide (changes_any gd x T)
  have HLo := hide (loose_any gd x T)
  have HSu := hide (fun W (d : DK W gd x T) => sure_any gd x T W d (by have := HG.out.vd.ok.bd.n; omega))
  refine wp_region_held_drew (S := fun W => Below W3.heap.size W3 W) (by kernel_rfl) ((Below.refl W3.heap.size W3).drew) (fun hH => ?_)
  refine wpAnyH_take (i := 0) (v := .pointer (some ⟨gd, 0, none⟩)) rfl (by kernel_rfl) (by kernel_rfl) (by kernel_rfl) (fun _ _ _ h => h) (yl_move (by rfl) _ (by rfl) _ (by rfl)) hH ?_
  change wpAnyH _ _ _ _ _ _ _ (Act.put _ (some 23) _) _
  simp only [Act.put, List.setIfInBounds_toArray, List.set_cons_zero, List.set_cons_succ]
  refine wpAnyH_take (i := 2) (v := .pointer (some ⟨b0, 4, none⟩)) rfl (by kernel_rfl) (by kernel_rfl) (by kernel_rfl) (fun _ _ _ h => h) (.inl ⟨by rfl, fun W _ => by go_simp⟩) hH ?_
  change wpAnyH _ _ _ _ _ _ _ (Act.put _ (some 25) _) _
  simp only [Act.put, List.setIfInBounds_toArray, List.set_cons_zero, List.set_cons_succ]
  refine wpAnyH_take (i := 3) (v := .bool x.dead) rfl (by kernel_rfl) (by kernel_rfl) (by kernel_rfl) (fun _ _ _ h => h) (.inl ⟨by rfl, fun W hS => by have c4 := (FRR.out W hS).2.2.2.2; go_simp⟩) hH ?_
  change wpAnyH _ _ _ _ _ _ _ (Act.put _ (some 26) _) _
  simp only [Act.put, List.setIfInBounds_toArray, List.set_cons_zero, List.set_cons_succ]
  have BD := hide (Below.refl W3.heap.size W3).drew
  generalize W3.drew = wd at *
  refine wpAnyH_ready (rs := [1]) (by kernel_rfl) (by simp) (AllReadyH.cons rfl (fun K1 hK1 => ?_) AllReadyH.nil)
  go_simp
  refine (dead_cell gd x.dead wd (dc3.out _ (below_next B3.out BD.out))).mono ?_
  rintro e wq ⟨rfl, hq⟩
  subst wq
  refine hK1.out _ _ BD.out (fun hH => ?_)
  clear hK1
  refine wpAnyH_take (i := 4) (v := .bool false) rfl (by kernel_rfl) (by kernel_rfl) (by kernel_rfl) (fun _ _ _ h => h) (.inl ⟨by rfl, fun W _ => by go_simp⟩) hH ?_
  change wpAnyH _ _ _ _ _ _ _ (Act.put _ (some 27) _) _
  simp only [Act.put, List.setIfInBounds_toArray, List.set_cons_zero, List.set_cons_succ]
  refine wpAnyH_take (i := 5) (v := .bool false) rfl (by kernel_rfl) (by kernel_rfl) (by kernel_rfl) (fun _ _ _ h => h) (yl_move (by rfl) _ (by rfl) _ (by rfl)) hH ?_
  change wpAnyH _ _ _ _ _ _ _ (Act.put _ (some 28) _) _
  simp only [Act.put, List.setIfInBounds_toArray, List.set_cons_zero, List.set_cons_succ]
  refine wpAnyH_take (i := 6) (v := .pointer (some ⟨gd, 0, none⟩)) rfl (by kernel_rfl) (by kernel_rfl) (by kernel_rfl) (fun _ _ _ h => h) (yl_move (by rfl) _ (by rfl) _ (by rfl)) hH ?_
  change wpAnyH _ _ _ _ _ _ _ (Act.put _ (some 29) _) _
  simp only [Act.put, List.setIfInBounds_toArray, List.set_cons_zero, List.set_cons_succ]
  refine wpAnyH_take (i := 8) (v := .pointer (some ⟨b0, 2, none⟩)) rfl (by kernel_rfl) (by kernel_rfl) (by kernel_rfl) (fun _ _ _ h => h) (.inl ⟨by rfl, fun W _ => by go_simp⟩) hH ?_
  change wpAnyH _ _ _ _ _ _ _ (Act.put _ (some 31) _) _
  simp only [Act.put, List.setIfInBounds_toArray, List.set_cons_zero, List.set_cons_succ]
  refine wpAnyH_take (i := 9) (v := .int .i64 (x.made : Int)) rfl (by kernel_rfl) (by kernel_rfl) (by kernel_rfl) (fun _ _ _ h => h) (.inl ⟨by rfl, fun W hS => by have c4 := (FRR.out W hS).2.2.2.1; go_simp⟩) hH ?_
  change wpAnyH _ _ _ _ _ _ _ (Act.put _ (some 32) _) _
  simp only [Act.put, List.setIfInBounds_toArray, List.set_cons_zero, List.set_cons_succ]
  refine wpAnyH_ready (rs := [7]) (by kernel_rfl) (by simp) (AllReadyH.cons rfl (fun K1 hK1 => ?_) AllReadyH.nil)
  go_simp
  refine (HCh.out wd (D3.out.below BD.out)).mono ?_
  rintro e wq ⟨rfl, hq⟩
  subst wq
  refine hK1.out _ _ BD.out (fun hH => ?_)
  clear hK1
  refine wpAnyH_take (i := 10) (v := .bool false) rfl (by kernel_rfl) (by kernel_rfl) (by kernel_rfl) (fun _ _ _ h => h) (.inl ⟨by rfl, fun W _ => by go_simp⟩) hH ?_
  change wpAnyH _ _ _ _ _ _ _ (Act.put _ (some 33) _) _
  simp only [Act.put, List.setIfInBounds_toArray, List.set_cons_zero, List.set_cons_succ]
  refine wpAnyH_take (i := 11) (v := .bool false) rfl (by kernel_rfl) (by kernel_rfl) (by kernel_rfl) (fun _ _ _ h => h) (.inl ⟨by rfl, fun W _ => by go_simp⟩) hH ?_
  change wpAnyH _ _ _ _ _ _ _ (Act.put _ (some 34) _) _
  simp only [Act.put, List.setIfInBounds_toArray, List.set_cons_zero, List.set_cons_succ]
  refine wpAnyH_take (i := 12) (v := .bool false) rfl (by kernel_rfl) (by kernel_rfl) (by kernel_rfl) (fun _ _ _ h => h) (yl_move (by rfl) _ (by rfl) _ (by rfl)) hH ?_
  change wpAnyH _ _ _ _ _ _ _ (Act.put _ (some 35) _) _
  simp only [Act.put, List.setIfInBounds_toArray, List.set_cons_zero, List.set_cons_succ]
  refine wpAnyH_take (i := 13) (v := .pointer (some ⟨gd, 0, none⟩)) rfl (by kernel_rfl) (by kernel_rfl) (by kernel_rfl) (fun _ _ _ h => h) (yl_move (by rfl) _ (by rfl) _ (by rfl)) hH ?_
  change wpAnyH _ _ _ _ _ _ _ (Act.put _ (some 36) _) _
  simp only [Act.put, List.setIfInBounds_toArray, List.set_cons_zero, List.set_cons_succ]
  refine wpAnyH_take (i := 15) (v := .pointer (some ⟨b0, 1, none⟩)) rfl (by kernel_rfl) (by kernel_rfl) (by kernel_rfl) (fun _ _ _ h => h) (.inl ⟨by rfl, fun W _ => by go_simp⟩) hH ?_
  change wpAnyH _ _ _ _ _ _ _ (Act.put _ (some 38) _) _
  simp only [Act.put, List.setIfInBounds_toArray, List.set_cons_zero, List.set_cons_succ]
  refine wpAnyH_take (i := 16) (v := .slice al x.loose.length cl) rfl (by kernel_rfl) (by kernel_rfl) (by kernel_rfl) (fun _ _ _ h => h) (.inl ⟨by rfl, fun W hS => by have c4 := (FRR.out W hS).2.2.1; go_simp⟩) hH ?_
  change wpAnyH _ _ _ _ _ _ _ (Act.put _ (some 39) _) _
  simp only [Act.put, List.setIfInBounds_toArray, List.set_cons_zero, List.set_cons_succ]
  refine wpAnyH_take (i := 17) (v := .int .i64 (x.loose.length : Int)) rfl (by kernel_rfl) (by kernel_rfl) (by kernel_rfl) (fun _ _ _ h => h) (.inl ⟨by rfl, fun W _ => by go_simp⟩) hH ?_
  change wpAnyH _ _ _ _ _ _ _ (Act.put _ (some 40) _) _
  simp only [Act.put, List.setIfInBounds_toArray, List.set_cons_zero, List.set_cons_succ]
  refine wpAnyH_ready (rs := [14]) (by kernel_rfl) (by simp) (AllReadyH.cons rfl (fun K1 hK1 => ?_) AllReadyH.nil)
  go_simp
  refine (HLo.out wd (D3.out.below BD.out)).mono ?_
  rintro e wq ⟨rfl, hq⟩
  subst wq
  refine hK1.out _ _ BD.out (fun hH => ?_)
  clear hK1
  refine wpAnyH_take (i := 18) (v := .bool false) rfl (by kernel_rfl) (by kernel_rfl) (by kernel_rfl) (fun _ _ _ h => h) (.inl ⟨by rfl, fun W _ => by go_simp⟩) hH ?_
  change wpAnyH _ _ _ _ _ _ _ (Act.put _ (some 41) _) _
  simp only [Act.put, List.setIfInBounds_toArray, List.set_cons_zero, List.set_cons_succ]
  refine wpAnyH_take (i := 19) (v := .bool false) rfl (by kernel_rfl) (by kernel_rfl) (by kernel_rfl) (fun _ _ _ h => h) (.inl ⟨by rfl, fun W _ => by go_simp⟩) hH ?_
  change wpAnyH _ _ _ _ _ _ _ (Act.put _ (some 42) _) _
  simp only [Act.put, List.setIfInBounds_toArray, List.set_cons_zero, List.set_cons_succ]
  refine wpAnyH_take (i := 20) (v := .bool false) rfl (by kernel_rfl) (by kernel_rfl) (by kernel_rfl) (fun _ _ _ h => h) (yl_move (by rfl) _ (by rfl) _ (by rfl)) hH ?_
  change wpAnyH _ _ _ _ _ _ _ (Act.put _ (some 43) _) _
  simp only [Act.put, List.setIfInBounds_toArray, List.set_cons_zero, List.set_cons_succ]
  refine wpAnyH_take (i := 21) (v := .slice a8 L.length c8) rfl (by kernel_rfl) (by kernel_rfl) (by kernel_rfl) (fun _ _ _ h => h) (yl_move (by rfl) _ (by rfl) _ (by rfl)) hH ?_
  change wpAnyH _ _ _ _ _ _ _ (Act.put _ (some 44) _) _
  simp only [Act.put, List.setIfInBounds_toArray, List.set_cons_zero, List.set_cons_succ]
  refine wpAnyH_take (i := 22) (v := .int .i64 (L.length : Int)) rfl (by kernel_rfl) (by kernel_rfl) (by kernel_rfl) (fun _ _ _ h => h) (.inl ⟨by rfl, fun W _ => by go_simp⟩) hH ?_
  change wpAnyH _ _ _ _ _ _ _ (Act.put _ (some 45) _) _
  simp only [Act.put, List.setIfInBounds_toArray, List.set_cons_zero, List.set_cons_succ]
  refine wpAnyH_take (i := 23) (v := .slice a2 L.length c2) rfl (by kernel_rfl) (by kernel_rfl) (by kernel_rfl) (fun _ _ _ h => h) (yl_move (by rfl) _ (by rfl) _ (by rfl)) hH ?_
  change wpAnyH _ _ _ _ _ _ _ (Act.put _ (some 46) _) _
  simp only [Act.put, List.setIfInBounds_toArray, List.set_cons_zero, List.set_cons_succ]
  refine wpAnyH_take (i := 24) (v := .int .i64 (L.length : Int)) rfl (by kernel_rfl) (by kernel_rfl) (by kernel_rfl) (fun _ _ _ h => h) (.inl ⟨by rfl, fun W _ => by go_simp⟩) hH ?_
  change wpAnyH _ _ _ _ _ _ _ (Act.put _ (some 47) _) _
  simp only [Act.put, List.setIfInBounds_toArray, List.set_cons_zero, List.set_cons_succ]
  refine wpAnyH_take (i := 25) (v := .bool false) rfl (by kernel_rfl) (by kernel_rfl) (by kernel_rfl) (fun _ _ _ h => h) (.inl ⟨by rfl, fun W _ => by go_simp⟩) hH ?_
  change wpAnyH _ _ _ _ _ _ _ (Act.put _ (some 48) _) _
  simp only [Act.put, List.setIfInBounds_toArray, List.set_cons_zero, List.set_cons_succ]
  refine wpAnyH_take (i := 26) (v := .bool false) rfl (by kernel_rfl) (by kernel_rfl) (by kernel_rfl) (fun _ _ _ h => h) (.inl ⟨by rfl, fun W _ => by go_simp⟩) hH ?_
  change wpAnyH _ _ _ _ _ _ _ (Act.put _ (some 49) _) _
  simp only [Act.put, List.setIfInBounds_toArray, List.set_cons_zero, List.set_cons_succ]
  refine wpAnyH_take (i := 27) (v := .bool false) rfl (by kernel_rfl) (by kernel_rfl) (by kernel_rfl) (fun _ _ _ h => h) (yl_move (by rfl) _ (by rfl) _ (by rfl)) hH ?_
  change wpAnyH _ _ _ _ _ _ _ (Act.put _ (some 50) _) _
  simp only [Act.put, List.setIfInBounds_toArray, List.set_cons_zero, List.set_cons_succ]
  refine wpAnyH_take (i := 28) (v := .pointer (some ⟨gd, 0, none⟩)) rfl (by kernel_rfl) (by kernel_rfl) (by kernel_rfl) (fun _ _ _ h => h) (yl_move (by rfl) _ (by rfl) _ (by rfl)) hH ?_
  change wpAnyH _ _ _ _ _ _ _ (Act.put _ (some 51) _) _
  simp only [Act.put, List.setIfInBounds_toArray, List.set_cons_zero, List.set_cons_succ]
  refine wpAnyH_take (i := 30) (v := .pointer (some ⟨b0, 0, none⟩)) rfl (by kernel_rfl) (by kernel_rfl) (by kernel_rfl) (fun _ _ _ h => h) (.inl ⟨by rfl, fun W _ => by go_simp⟩) hH ?_
  change wpAnyH _ _ _ _ _ _ _ (Act.put _ (some 53) _) _
  simp only [Act.put, List.setIfInBounds_toArray, List.set_cons_zero, List.set_cons_succ]
  refine wpAnyH_take (i := 31) (v := .slice ao n cs) rfl (by kernel_rfl) (by kernel_rfl) (by kernel_rfl) (fun _ _ _ h => h) (.inl ⟨by rfl, fun W hS => by have c4 := (FRR.out W hS).2.1; go_simp⟩) hH ?_
  change wpAnyH _ _ _ _ _ _ _ (Act.put _ (some 54) _) _
  simp only [Act.put, List.setIfInBounds_toArray, List.set_cons_zero, List.set_cons_succ]
  refine wpAnyH_ready (rs := [29]) (by kernel_rfl) (by simp) (AllReadyH.cons rfl (fun K1 hK1 => ?_) AllReadyH.nil)
  go_simp
  refine (HSu.out wd (D3.out.below BD.out)).mono ?_
  rintro e W4 ⟨g4, rfl, m4, b4, l4⟩
  have B4 := hide (below_next BD.out b4)
  have M4 := hide m4
  clear m4 b4 l4
  refine hK1.out _ _ B4.out (fun hH => ?_)
  clear hK1
  refine wpAnyH_ready (rs := [32]) (by kernel_rfl) (by simp) (AllReadyH.cons rfl (fun K1 hK1 => ?_) AllReadyH.nil)
  go_simp
  have HFi : Hid (Calls Try.prog 29 #[.map (some g4), .slice ao n cs] W4 fun e w' => e = .returned (.bool true) ∧ Below W4.heap.size W4 w') := by
    obtain ⟨vs, vl, vp, S, e, q⟩ := (DM.out.next B4.out)
    have e1 : vs = .slice ao n cs := by
      unfold dcs at e
      simp only [Value.agg.injEq, Array.mk.injEq, List.cons.injEq] at e
      exact e.1.symm
    subst e1
    exact lfiles_any S x.sure g4 _ W4 M4.out q.sure.now q.rep HG.out.nm (HG.out.vd.ok.bd.n)
  refine HFi.out.mono ?_
  rintro e W5 ⟨rfl, b5⟩
  have B5 := hide (below_next B4.out b5)
  clear b5
  refine hK1.out _ _ B5.out (fun hH => ?_)
  clear hK1 HFi
  refine wpAnyH_take (i := 33) (v := .bool false) rfl (by kernel_rfl) (by kernel_rfl) (by kernel_rfl) (fun _ _ _ h => h) (.inl ⟨by rfl, fun W _ => by go_simp⟩) hH ?_
  change wpAnyH _ _ _ _ _ _ _ (Act.put _ (some 56) _) _
  simp only [Act.put, List.setIfInBounds_toArray, List.set_cons_zero, List.set_cons_succ]
  refine wpAnyH_take (i := 34) (v := .bool false) rfl (by kernel_rfl) (by kernel_rfl) (by kernel_rfl) (fun _ _ _ h => h) (.inl ⟨by rfl, fun W _ => by go_simp⟩) hH ?_
  change wpAnyH _ _ _ _ _ _ _ (Act.put _ (some 57) _) _
  simp only [Act.put, List.setIfInBounds_toArray, List.set_cons_zero, List.set_cons_succ]
  refine wpAnyH_done (by kernel_rfl) ?_ _
  have BB := hide (below_next B3.out B5.out)
  have L5 := hide (LX2.out.below B5.out)
  have N5 := hide (O8.out.below B5.out).read
  have D5 := hide (D3.out.below B5.out)
  have M5 := hide (DM.out.next B5.out)
  clear FRR HCh HLo HSu BD B4 B5 M4 LX2 O8 D3 DM B2 K2
  go_wp2
  go_loopw [9] (fun i wr => ∃ k : Nat, k ≤ L.length ∧ i = .int .i64 (k : Int) ∧ Hid (Below W5.heap.size W5 wr)) (fun i _ => (L.length - intOf i).toNat)
  case atStart => exact ⟨0, Nat.zero_le _, rfl, Below.refl _ _⟩
  case round =>
    obtain ⟨k, hk, rfl, J⟩ := hrel
    by_cases hlt : k < L.length
    · obtain ⟨g, off, rfl⟩ := L5.out.base (by omega)
      obtain ⟨g8, off8, rfl⟩ := N5.out.base (by rw [List.length_map]; omega)
      have hr := (L5.out.below J.out).range k hlt
      have hr8 := (N5.out.below J.out).range k (by rw [List.length_map]; omega)
      rw [List.getElem_map] at hr8
      have d0 : wr.cell? ⟨g, off + k * 2, none⟩ = some (.string L[k].nm) := hr 0 _ rfl
      have d8 : wr.cell? ⟨g8, off8 + k, none⟩ = some (.string L[k].nm) := by
        have := hr8 0 _ rfl
        rw [show off8 + k * KSt.k + 0 = off8 + k by show off8 + k * 1 + 0 = _; omega] at this
        exact this
      have h0 : (0 : Int) ≤ (k : Int) := by omega
      have h2 : (k : Int) < L.length := by omega
      have e1 : IntKind.i64.wrap ((k : Int) + 1) = k + 1 := wrapI _ (by omega) (by have := HL.out; omega)
      clear hr hr8
      generalize L[k].nm = y at *
      have ts := tl_same y
      have LT := hide hlt
      clear hlt hk
      go_upto_region 8 with fail
      go_quiet (fail)
      go_wp2
      go_round
      case rel => exact ⟨k + 1, LT.out, by go_num, below_drewN J.out _⟩
      case measure => have := LT.out; simp [intOf]; omega
    · have h2 : ¬ (k : Int) < (L.length : Int) := by omega
      have BW := hide (below_next BB.out J.out)
      have D6 := hide (D5.out.below J.out)
      have M6 := hide (M5.out.next J.out)
      obtain ⟨ra, rc, c1, c2, c3, c4⟩ := CC.out _ BW.out
      go_upto_region 10 with fail
      have FC : Hid (∀ W, Below wr.heap.size wr W → W.heap[b0]? = some (.cells #[.slice ao n cs, .slice al x.loose.length cl, .int .i64 (x.made : Int), .slice ap x.plan.length cp, .bool x.dead] 30 (0, 0)) ∧ W.cell? ⟨b0 + 1, 1, none⟩ = some (.int .i64 atv) ∧ W.cell? ⟨b0 + 1, 2, none⟩ = some (.int .i64 nv) ∧ W.cell? ⟨b0 + 1, 3, none⟩ = some (.string nm) ∧ W.cell? ⟨b0, 4, none⟩ = some (.bool x.dead)) := fun W b => by
        obtain ⟨q1, q2, q3, q4, q5, q6⟩ := CC.out W (below_next BW.out b)
        exact ⟨q1, q3, q4, q5, q6⟩
      have HKw : Hid (∀ W, Below wr.heap.size wr W → ∀ g, T g → g < W.heap.size) := fun W b g hg => Nat.lt_of_lt_of_le (HK.out g hg) (below_next BW.out b).size
      have BWW : Hid (Below w.heap.size w wr) := by
        have h1 := HB.out
        rw [← hgb] at h1
        exact below_next h1 BW.out
      clear h2 hlt hk L5 N5 D5 M5 J BB ra rc c1 c2 c3 c4 BW HB H1 HK CC DC GLT Q2 HL B3 dc3
      have HBd := hide HG.out.vd.bd2
      obtain ⟨t, ht⟩ : ∃ t : ByteArray, ls t = x.now.at (ls nm) := ⟨⟨(x.now.at (ls nm)).toArray⟩, by simp [ls]⟩
      have HT0 := hide ht
      have et : (⟨(x.now.at (ls nm)).toArray⟩ : ByteArray) = t := by rw [← ht, back_b]
      have etl : (x.now.at (ls nm)).length = t.size := by rw [← ht, ls_len]
      have HGe : Hid (∀ W, Below wr.heap.size wr W → Calls Try.prog 33 #[.agg #[.slice ao n cs, .slice al x.loose.length cl, .int .i64 (x.made : Int), .slice ap x.plan.length cp, .bool x.dead], .string nm] W fun e w' => e = .returned (.tuple #[.string t, .bool (x.now.get (ls nm)).isSome]) ∧ Below W.heap.size W w') := fun W b => (rget_any T x _ nm W (M6.out.next b) HG.out.vd (HKw.out W b)).mono fun e w' ⟨t2, h1, h2, h3⟩ => by
        rw [ls_inj (h1.trans HT0.out.symm)] at h2
        exact ⟨h2, h3⟩
      obtain ⟨c0, hc0⟩ : ∃ c0, c0 = fnd x nm := ⟨_, rfl⟩
      obtain ⟨r1, hr1⟩ : ∃ r1 : ByteArray, r1 = ⟨(if fnd x nm = 0 then x.now.at (ls nm) else []).toArray⟩ := ⟨_, rfl⟩
      obtain ⟨z1, hz1⟩ : ∃ z1 : Int, z1 = ((if fnd x nm = 0 then x.now.at (ls nm) else []).length : Int) := ⟨_, rfl⟩
      obtain ⟨p1, hp1⟩ : ∃ p1 : ByteArray, p1 = ⟨(ptL x nm atv nv).toArray⟩ := ⟨_, rfl⟩
      obtain ⟨g1, hg1⟩ : ∃ g1, g1 = ptE x nm atv nv := ⟨_, rfl⟩
      obtain ⟨th, hth⟩ : ∃ th, th = (x.now.get (ls nm)).isSome := ⟨_, rfl⟩
      obtain ⟨xd, hxd⟩ : ∃ xd, xd = x.dead := ⟨_, rfl⟩
      have HRd : Hid (∀ W, Below wr.heap.size wr W → Calls Try.prog 13 #[.pointer (some ⟨gd, 0, none⟩), .string nm] W fun e w' => e = .returned (.tuple #[.string r1, .int .i64 c0]) ∧ Below W.heap.size W w') := fun W b => by
        rw [hc0, hr1]
        exact read_any gd x T nm W (D6.out.below b) HS.out
      have HSz : Hid (∀ W, Below wr.heap.size wr W → Calls Try.prog 31 #[.pointer (some ⟨gd, 0, none⟩), .string nm] W fun e w' => e = .returned (.tuple #[.int .i64 z1, .int .i64 c0]) ∧ Below W.heap.size W w') := fun W b => by
        rw [hc0, hz1]
        exact size_any gd x T nm W (D6.out.below b) HS.out
      have HPt : Hid (∀ W, Below wr.heap.size wr W → Calls Try.prog 32 #[.pointer (some ⟨gd, 0, none⟩), .string nm, .int .i64 atv, .int .i64 nv] W fun e w' => e = .returned (.tuple #[.string p1, .int .i64 g1]) ∧ Below W.heap.size W w') := fun W b => by
        rw [hg1, hp1]
        exact part_any gd x T nm atv nv W (D6.out.below b) HS.out (HBd.out.len _)
      have HIs : Hid (∀ W, Calls Try.prog 34 #[.string nm] W fun e w' => e = .returned (.bool (isName nm.data.toList)) ∧ w' = W) := fun W => risName_any nm W HS.out
      rw [← hth] at HGe
      rw [← hxd] at FC HGe
      have HTs := hide (show t.size ≤ 16777216 by rw [← etl]; exact HBd.out.len _)
      have EQ := hide (And.intro hc0 (And.intro hr1 (And.intro hz1 (And.intro hp1 (And.intro hg1 (And.intro hth (And.intro hxd (And.intro et etl))))))))
      clear hc0 hr1 hz1 hp1 hg1 hth hxd et etl ht HBd D6 M6 HKw HG
      obtain ⟨q0, c1, c2, c3, c4⟩ := FC.out _ (Below.refl _ _)
      clear q0
      go_upto_region 11 with (go_at_call 13; refine (HRd.out _ (Below.refl _ _)).mono ?_; rintro e V0 ⟨rfl, bb⟩; have BV0 := hide (bb); clear bb)
      clear c1 c2 c3 c4
      obtain ⟨q0, c1, c2, c3, c4⟩ := FC.out _ BV0.out
      skip
      clear q0
      go_upto_region 12 with (go_at_call 31; refine (HSz.out _ BV0.out).mono ?_; rintro e V1 ⟨rfl, bb⟩; have BV1 := hide (below_next BV0.out bb); clear bb)
      clear c1 c2 c3 c4
      obtain ⟨q0, c1, c2, c3, c4⟩ := FC.out _ BV1.out
      skip
      clear q0
      go_upto_region 13 with (go_at_call 32; refine (HPt.out _ BV1.out).mono ?_; rintro e V2 ⟨rfl, bb⟩; have BV2 := hide (below_next BV1.out bb); clear bb)
      clear c1 c2 c3 c4
      obtain ⟨q0, c1, c2, c3, c4⟩ := FC.out _ BV2.out
      have RQ := hide q0
      clear q0
      go_upto_region 14 with (first | ((with_reducible refine at_list ?_); refine wpList_loadA ADd rfl _ rfl b0 rfl _ rfl _ RQ.out ?_) | (go_at_call 33; refine (HGe.out _ BV2.out).mono ?_; rintro e V3 ⟨rfl, bb⟩; have BV3 := hide (below_next BV2.out bb); clear bb))
      clear c1 c2 c3 c4
      obtain ⟨q0, c1, c2, c3, c4⟩ := FC.out _ BV3.out
      clear q0
      have BF := hide (below_next BWW.out BV3.out)
      clear HRd HSz HPt HGe FC RQ BV0 BV1 BV2 BV3 BWW
      obtain ⟨hc0, hr1, hz1, hp1, hg1, hth, hxd, et, etl⟩ := EQ.out
      have ht := HT0.out
      clear EQ HT0
      by_cases hf : fnd x nm = 0
      · obtain ⟨hr, hg⟩ := fnd_facts hf
        obtain ⟨hd, hN⟩ := rdy_ok hr
        rw [hf] at hc0
        rw [if_pos hf, et] at hr1
        rw [if_pos hf, etl] at hz1
        rw [hg] at hth
        rw [hd] at hxd
        rw [show isName nm.data.toList = true from hN] at HIs
        subst hc0 hr1 hz1 hth hxd
        by_cases hk : atv < 0 ∨ nv < 0 ∨ (r1.size : Int) < atv ∨ (r1.size : Int) - atv < nv
        · have e1 : ptE x nm atv nv = 1 := by unfold ptE; rw [if_pos hf, etl, if_pos hk]
          have e2 : ptL x nm atv nv = [] := by unfold ptL; rw [e1]; rfl
          rw [e1] at hg1
          rw [e2] at hp1
          subst hg1 hp1
          have ts := tl_same r1
          clear hf hr hg hd hN et etl ht e1 e2
          by_cases k1 : atv < 0
          · clear hk
            go_wp2_with (go_at_call 34; refine (HIs.out _).mono ?_; rintro e V4 ⟨rfl, hv4⟩; subst V4)
            go_ret
            exact ⟨rfl, BF.out⟩
          · by_cases k2 : nv < 0
            · clear hk
              go_wp2_with (go_at_call 34; refine (HIs.out _).mono ?_; rintro e V4 ⟨rfl, hv4⟩; subst V4)
              go_ret
              exact ⟨rfl, BF.out⟩
            · by_cases k3 : (r1.size : Int) < atv
              · clear hk
                go_wp2_with (go_at_call 34; refine (HIs.out _).mono ?_; rintro e V4 ⟨rfl, hv4⟩; subst V4)
                go_ret
                exact ⟨rfl, BF.out⟩
              · have k4 : (r1.size : Int) - atv < nv := by omega
                have k5 : IntKind.i64.wrap ((r1.size : Int) - atv) = (r1.size : Int) - atv := wrapI _ (by omega) (by have := HTs.out; omega)
                clear hk
                go_wp2_with (go_at_call 34; refine (HIs.out _).mono ?_; rintro e V4 ⟨rfl, hv4⟩; subst V4)
                go_ret
                exact ⟨rfl, BF.out⟩
        · have k1 : ¬ atv < 0 := by omega
          have k2 : ¬ nv < 0 := by omega
          have k3 : ¬ (r1.size : Int) < atv := by omega
          have k4 : ¬ (r1.size : Int) - atv < nv := by omega
          have k5 : IntKind.i64.wrap ((r1.size : Int) - atv) = (r1.size : Int) - atv := wrapI _ (by omega) (by have := HTs.out; omega)
          have k6 : IntKind.i64.wrap (atv + nv) = atv + nv := wrapI _ (by omega) (by have := HTs.out; omega)
          have e1 : ptE x nm atv nv = 0 := by unfold ptE; rw [if_pos hf, etl, if_neg hk]
          have e2 : ptL x nm atv nv = ((x.now.at (ls nm)).drop atv.toNat).take nv.toNat := by unfold ptL; rw [if_pos e1]
          rw [e1] at hg1
          rw [e2] at hp1
          have er : p1 = r1.extract atv.toNat (atv.toNat + nv.toNat) := by
            rw [hp1]
            refine ls_inj ?_
            rw [← ht]
            simp [ls, ByteArray.data_extract, List.extract_eq_take_drop]
          have hsl : Hid (∀ W, (Instr.sliceAt 9 (.string r1) (some (.int .i64 atv)) (some (.int .i64 (atv + nv))) none).run Try.prog W = .ok (.string p1) W) := fun W => by
            have := run_mid r1 atv.toNat (atv.toNat + nv.toNat) (by omega) (by omega) W
            rw [er]
            rw [show ((atv.toNat : Nat) : Int) = atv by omega, show ((atv.toNat + nv.toNat : Nat) : Int) = atv + nv by omega] at this
            exact this
          subst hg1
          have ts := tl_same r1
          have tr := tl_same p1
          clear hf hr hg hd hN et etl ht er hk e1 e2 hp1
          go_upto_region 27 with (go_at_call 34; refine (HIs.out _).mono ?_; rintro e V4 ⟨rfl, hv4⟩; subst V4)
          go_wp2_with ((with_reducible refine at_list ?_); refine list_run (by rfl) (ex_slM _ _ _ (by rfl) (by rfl) (by rfl) (by rfl) (hsl.out _)) ?_)
          go_ret
          exact ⟨rfl, BF.out⟩
      · rw [if_neg hf] at hr1 hz1
        have e1 : ptE x nm atv nv = fnd x nm := by unfold ptE; rw [if_neg hf]
        have e2 : ptL x nm atv nv = [] := by unfold ptL; rw [e1, if_neg hf]
        rw [e1, ← hc0] at hg1
        rw [e2] at hp1
        subst hr1 hp1 hg1
        have z0 : z1 = 0 := hz1
        subst z0
        clear e1 e2 et etl ht hz1
        cases hd : x.dead
        · rw [hd] at hxd
          subst hxd
          cases hN : isName nm.data.toList
          · have e7 : g1 = 70 := by rw [hc0]; simp [fnd, rdy, hd, hN]
            subst e7
            rw [hN] at HIs
            clear hf hc0 hd hN hth
            go_wp2_with (go_at_call 34; refine (HIs.out _).mono ?_; rintro e V4 ⟨rfl, hv4⟩; subst V4)
            go_ret
            exact ⟨rfl, BF.out⟩
          · cases hg : (x.now.get (ls nm)).isSome
            · have e7 : g1 = 2 := by rw [hc0]; simp [fnd, rdy, hd, hN, hg]
              rw [hg] at hth
              subst e7 hth
              rw [hN] at HIs
              clear hf hc0 hd hN hg
              go_wp2_with (go_at_call 34; refine (HIs.out _).mono ?_; rintro e V4 ⟨rfl, hv4⟩; subst V4)
              go_ret
              exact ⟨rfl, BF.out⟩
            · exact absurd (show fnd x nm = 0 by simp [fnd, rdy, hd, hN, hg]) hf
        · have e7 : g1 = 7 := by rw [hc0]; simp [fnd, rdy, hd]
          rw [hd] at hxd
          subst e7 hxd
          clear hf hc0 hd hth
          go_wp2_with (go_at_call 34; refine (HIs.out _).mono ?_; rintro e V4 ⟨rfl, hv4⟩; subst V4)
          go_ret
          exact ⟨rfl, BF.out⟩
end
end Go.Proofs.Ythnfpdmhjennlaa
