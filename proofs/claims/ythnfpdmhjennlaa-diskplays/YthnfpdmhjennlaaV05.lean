/- The contract of playOne: a cut, a move, a removal; and all kinds. -/
import Derived.Test.YthnfpdmhjennlaaV04
namespace Go.Proofs.Ythnfpdmhjennlaa
open Go.RowKit
open Go.Deep
open Go.Lib
section
variable {w : World} {b : Nat} {F : List UInt8 → Option Value} {f : FS} {S : Nat → Prop}
set_option maxRecDepth 10000
set_option maxHeartbeats 4000000
theorem playOne_cut (nm tn s : ByteArray) (k : Nat) (w : World) (h : Fs w b F f S) (hnm : nm.size ≤ maxLen) (hk : k ≤ (f.at (ls nm)).length) (hn : f.n + 1 < maxLen) :
    Calls Try.prog 54 #[.map (some b), .agg #[.int .i64 1, .string nm, .string tn, .int .i64 (k : Int), .string s]] w fun e w' => (∃ r, e = .returned r) ∧ ∃ F', Fs w' b F' (f.put (ls nm) ((f.at (ls nm)).take k)) (grow S w w') ∧ Fr S w w' := by
  have hB : Below w.heap.size w (w.alloc (.cells #[.int .i64 1, .string nm, .string tn, .int .i64 (k : Int), .string s] 81)) := (Below.refl _ _).alloc (Nat.le_refl _) _
  have h1 := hide (h.below hB)
  have hL := h1.out.mp.look hnm
  have R1 := hide (heap_alloc_last w (.cells #[.int .i64 1, .string nm, .string tn, .int .i64 (k : Int), .string s] 81))
  have hS0 := hide h.lt
  have ov := h1.out.ownv (ls nm)
  obtain ⟨ao, n, c, hv, hnn⟩ := ov.form
  have HV : Hid (vl F (ls nm) = .slice ao n c) := hv
  have OV : Hid (Own (w.alloc (.cells #[.int .i64 1, .string nm, .string tn, .int .i64 (k : Int), .string s] 81)) (.slice ao n c) (f.at (ls nm))) := by rw [← hv]; exact ov
  have hF : (F nm.data.toList).getD (.slice none 0 0) = .slice ao n c := hv
  rw [hF] at hL
  have HB := hide hB
  have HK := hide (And.intro hk (And.intro hn hnm))
  clear h hB ov hv hnn hF hk hn hnm
  go_enter Try.func54, Try.ntmps54
  go_upto_region 7 with fail
  clear hL
  generalize hgb : w.heap.size = gb at *
  have BN : Hid (b ≠ gb) := fun e => by
    have := hS0.out b h1.out.self
    omega
  generalize w.alloc (.cells #[.int .i64 1, .string nm, .string tn, .int .i64 (k : Int), .string s] 81) = W1 at *
  have CC : Hid (∀ W : World, W.heap[gb]? = some (.cells #[.int .i64 1, .string nm, .string tn, .int .i64 (k : Int), .string s] 81 (0, 0)) → W.cell? ⟨gb, 1, none⟩ = some (.string nm) ∧ W.cell? ⟨gb, 3, none⟩ = some (.int .i64 (k : Int))) := fun W hW => by
    refine ⟨?_, ?_⟩ <;> (rw [cell_of_row _ _ _ _ _ _ hW]; rfl)
  refine wp_region_held_drew (S := fun W => W.heap[gb]? = some (.cells #[.int .i64 1, .string nm, .string tn, .int .i64 (k : Int), .string s] 81 (0, 0))) (by kernel_rfl) R1.out (fun hH => ?_)
  refine wpAnyH_take (i := 0) (v := .map (some b)) rfl (by kernel_rfl) (by kernel_rfl) (by kernel_rfl) (fun _ _ _ h => h) (yl_move (by rfl) _ (by rfl) _ (by rfl)) hH ?_
  change wpAnyH _ _ _ _ _ _ _ (Act.put _ (some 32) _) _
  simp only [Act.put, List.setIfInBounds_toArray, List.set_cons_zero, List.set_cons_succ]
  refine wpAnyH_take (i := 1) (v := .pointer (some ⟨gb, 1, none⟩)) rfl (by kernel_rfl) (by kernel_rfl) (by kernel_rfl) (fun _ _ _ h => h) (.inl ⟨by rfl, fun W _ => by go_simp⟩) hH ?_
  change wpAnyH _ _ _ _ _ _ _ (Act.put _ (some 33) _) _
  simp only [Act.put, List.setIfInBounds_toArray, List.set_cons_zero, List.set_cons_succ]
  refine wpAnyH_take (i := 2) (v := .string nm) rfl (by kernel_rfl) (by kernel_rfl) (by kernel_rfl) (fun _ _ _ h => h) (.inl ⟨by rfl, fun W hS => by have c4 := (CC.out W hS).1; go_simp⟩) hH ?_
  change wpAnyH _ _ _ _ _ _ _ (Act.put _ (some 34) _) _
  simp only [Act.put, List.setIfInBounds_toArray, List.set_cons_zero, List.set_cons_succ]
  refine wpAnyH_take (i := 3) (v := .slice ao n c) rfl (by kernel_rfl) (by kernel_rfl) (by kernel_rfl) (fun _ _ _ h => h) (yl_move (by rfl) _ (by rfl) _ (by rfl)) hH ?_
  change wpAnyH _ _ _ _ _ _ _ (Act.put _ (some 35) _) _
  simp only [Act.put, List.setIfInBounds_toArray, List.set_cons_zero, List.set_cons_succ]
  refine wpAnyH_take (i := 4) (v := .pointer (some ⟨gb, 3, none⟩)) rfl (by kernel_rfl) (by kernel_rfl) (by kernel_rfl) (fun _ _ _ h => h) (.inl ⟨by rfl, fun W _ => by go_simp⟩) hH ?_
  change wpAnyH _ _ _ _ _ _ _ (Act.put _ (some 36) _) _
  simp only [Act.put, List.setIfInBounds_toArray, List.set_cons_zero, List.set_cons_succ]
  refine wpAnyH_take (i := 5) (v := .int .i64 (k : Int)) rfl (by kernel_rfl) (by kernel_rfl) (by kernel_rfl) (fun _ _ _ h => h) (.inl ⟨by rfl, fun W hS => by have c4 := (CC.out W hS).2; go_simp⟩) hH ?_
  change wpAnyH _ _ _ _ _ _ _ (Act.put _ (some 37) _) _
  simp only [Act.put, List.setIfInBounds_toArray, List.set_cons_zero, List.set_cons_succ]
  refine wpAnyH_take (i := 6) (v := cutv (.slice ao n c) k) rfl (by kernel_rfl) (by kernel_rfl) (by kernel_rfl) (fun _ _ _ h => h) (yl_slice (by rfl) _ _ _ (by rfl) _ _ (by rfl) _ _ (by rfl) (by rfl) (fun W => run_cutvA OV.out k HK.out.1 W)) hH ?_
  change wpAnyH _ _ _ _ _ _ _ (Act.put _ (some 38) _) _
  simp only [Act.put, List.setIfInBounds_toArray, List.set_cons_zero, List.set_cons_succ]
  obtain ⟨o3, e3⟩ := OV.out.cut k HK.out.1
  have ona : Onto W1 W1.drew (.slice ao n c) (cutv (.slice ao n c) k) := ⟨(Onto.refl W1 _).drew.grown, .inl e3⟩
  have fq := h1.out.onto HV.out ona
  have o3' : Own W1.drew (cutv (.slice ao n c) k) ((f.at (ls nm)).take k) := o3.of_block fun _ _ => rfl
  obtain ⟨w4, hr4, f4, g4, z4⟩ := fq.put rfl (by have := HK.out.2.1; omega) HK.out.2.2 o3' (fun g hg => by
    rw [e3] at hg
    exact .inl (h1.out.ins _ _ g (fun e => e) (val_some HV.out hg) hg)) (h1.out.beside HV.out ona)
  have R4 : w4.heap[gb]? = some (.cells #[.int .i64 1, .string nm, .string tn, .int .i64 (k : Int), .string s] 81 (0, 0)) := (g4.block gb (lt_heap R1.out) (fun e => BN.out (by cases e; rfl))).trans R1.out
  have FF : Hid (Fr S w w4 ∧ ∃ F', Fs w4 b F' (f.put (ls nm) ((f.at (ls nm)).take k)) (grow S w w4)) := by
    have hb := HB.out
    rw [← hgb] at hb
    have r1 : Fr S w W1 := Fr.of_below hb
    have r3 : Fr S W1.drew w4 := Fr.of_grown g4 (fun g hg => by cases hg; exact h1.out.self)
    have r4 := r1.trans' ((Fr.of_below (Below.refl _ _).drew).trans' r3)
    refine ⟨r4, _, f4.wide (fun g hg => ?_) (grow_lt (fun g hg => by rw [hgb]; exact hS0.out g hg) r4.size)⟩
    rcases hg with hg | ⟨hg1, hg2⟩
    · exact .inl hg
    · have : W1.drew.heap.size = W1.heap.size := rfl
      omega
  clear f4 fq ona g4 z4 o3 o3'
  refine wpAnyH_ready (rs := [7]) (by kernel_rfl) (by simp) (AllReadyH.cons rfl (fun K1 hK1 => ?_) AllReadyH.nil)
  refine step_skip (by rfl) (ex_put _ _ _ (by rfl) (by rfl) (by rfl) (by rfl) hr4) ?_
  refine hK1.out _ _ R4 (fun hH => ?_)
  clear hK1 hr4
  refine wpAnyH_done (by kernel_rfl) ?_ _
  go_wp2
  refine bodyPost_end (results_none (by kernel_rfl) _ _ _) rfl ?_
  obtain ⟨r4, F4, f4⟩ := FF.out
  exact ⟨⟨_, rfl⟩, F4, f4, r4⟩
theorem playOne_del (nm tn s : ByteArray) (k : Nat) (w : World) (h : Fs w b F f S) (hnm : nm.size ≤ maxLen) :
    Calls Try.prog 54 #[.map (some b), .agg #[.int .i64 3, .string nm, .string tn, .int .i64 (k : Int), .string s]] w fun e w' => (∃ r, e = .returned r) ∧ ∃ F', Fs w' b F' (f.del (ls nm)) (grow S w w') ∧ Fr S w w' := by
  have hB : Below w.heap.size w (w.alloc (.cells #[.int .i64 3, .string nm, .string tn, .int .i64 (k : Int), .string s] 81)) := (Below.refl _ _).alloc (Nat.le_refl _) _
  have h1 := hide (h.below hB)
  have hL := h1.out.mp.look hnm
  have hS0 := hide h.lt
  have ov := h1.out.ownv (ls nm)
  obtain ⟨ao, n, c, hv, hnn⟩ := ov.form
  have hF : (F nm.data.toList).getD (.slice none 0 0) = .slice ao n c := hv
  rw [hF] at hL
  have HB := hide hB
  obtain ⟨w4, hr4, f4, g4, z4⟩ := h1.out.del (s := nm) rfl hnm 0
  have HR := hide hr4
  have FF : Hid (Fr S w w4 ∧ ∃ F', Fs w4 b F' (f.del (ls nm)) (grow S w w4)) := by
    have r1 : Fr S w _ := Fr.of_below hB
    have r3 : Fr S _ w4 := Fr.of_grown g4 (fun g hg => by cases hg; exact h1.out.self)
    have r4 := r1.trans' r3
    exact ⟨r4, _, f4.wide (fun g hg => .inl hg) (grow_lt hS0.out r4.size)⟩
  clear h hB ov hv hnn hF hnm f4 g4 z4 hr4
  go_enter Try.func54, Try.ntmps54
  go_wp2_with (first | (at_delete; refine list_run (by rfl) (ex_del _ _ (by rfl) (by rfl) (by rfl) HR.out) ?_))
  refine bodyPost_end (results_none (by kernel_rfl) _ _ _) rfl ?_
  obtain ⟨r4, F4, f4⟩ := FF.out
  exact ⟨⟨_, rfl⟩, F4, f4, r4⟩
theorem playOne_move (nm tn s : ByteArray) (k : Nat) (w : World) (h : Fs w b F f S) (hnm : nm.size ≤ maxLen) (htn : tn.size ≤ maxLen) (hn : f.n + 1 < maxLen) :
    Calls Try.prog 54 #[.map (some b), .agg #[.int .i64 2, .string nm, .string tn, .int .i64 (k : Int), .string s]] w fun e w' => (∃ r, e = .returned r) ∧ ∃ F', Fs w' b F' ((f.del (ls nm)).put (ls tn) (f.at (ls nm))) (grow S w w') ∧ Fr S w w' := by
  have hB : Below w.heap.size w (w.alloc (.cells #[.int .i64 2, .string nm, .string tn, .int .i64 (k : Int), .string s] 81)) := (Below.refl _ _).alloc (Nat.le_refl _) _
  have h1 := hide (h.below hB)
  have hL := h1.out.mp.look hnm
  have R1 := heap_alloc_last w (.cells #[.int .i64 2, .string nm, .string tn, .int .i64 (k : Int), .string s] 81)
  have hS0 := hide h.lt
  have ov := h1.out.ownv (ls nm)
  obtain ⟨ao, n, c, hv, hnn⟩ := ov.form
  have HV : Hid (vl F (ls nm) = .slice ao n c) := hv
  have hF : (F nm.data.toList).getD (.slice none 0 0) = .slice ao n c := hv
  rw [hF] at hL
  rw [hv] at ov
  obtain ⟨w4, hr4, f4, g4, z4⟩ := h1.out.del (s := nm) rfl hnm 0
  have HR := hide hr4
  have ov4 : Own w4 (.slice ao n c) (f.at (ls nm)) := ov.of_block fun g e => g4.block g (ov.ltb e) fun c => h1.out.ne ov e (by cases c; rfl)
  have fq : Fq (fun x => x = ls tn) w4 b (upd F (ls nm) none) (f.del (ls nm)) S := ⟨f4.mp, f4.dom, fun k v l _ => f4.own k v l (fun e => e), fun k v g _ => f4.ins k v g (fun e => e), fun k k' v v' g _ _ => f4.one k k' v v' g (fun e => e) (fun e => e), f4.self, f4.lt⟩
  have hn4 : (f.del (ls nm)).n < maxLen := by
    show (if (f.get (ls nm)).isSome then f.n - 1 else f.n) < maxLen
    split <;> omega
  obtain ⟨w5, hr5, f5, g5, z5⟩ := fq.put (s := tn) rfl hn4 htn ov4 (fun g hg => h1.out.ins _ _ g (fun e => e) (val_some HV.out hg) hg) (fun k' v' g _ hk' hg' e => by
    unfold upd at hk'
    split at hk'
    · cases hk'
    · rename_i hne
      exact hne (h1.out.one k' (ls nm) v' _ g (fun e => e) (fun e => e) hk' (val_some HV.out e) hg' e))
  have HR5 := hide hr5
  have hb : b ≠ w.heap.size := fun e => by
    have := hS0.out b h1.out.self
    omega
  have R4 : w4.heap[w.heap.size]? = some (.cells #[.int .i64 2, .string nm, .string tn, .int .i64 (k : Int), .string s] 81 (0, 0)) := (g4.block _ (lt_heap R1) (fun e => hb (by cases e; rfl))).trans R1
  have c4 : w4.cell? ⟨w.heap.size, 2, none⟩ = some (.string tn) := by rw [cell_of_row _ _ _ _ _ _ R4]; rfl
  have FF : Hid (Fr S w w5 ∧ ∃ F', Fs w5 b F' ((f.del (ls nm)).put (ls tn) (f.at (ls nm))) (grow S w w5)) := by
    have r1 : Fr S w _ := Fr.of_below hB
    have r3 : Fr S _ w4 := Fr.of_grown g4 (fun g hg => by cases hg; exact h1.out.self)
    have r4 : Fr S _ w5 := Fr.of_grown g5 (fun g hg => by cases hg; exact h1.out.self)
    have r5 := (r1.trans' r3).trans' r4
    exact ⟨r5, _, f5.wide (fun g hg => .inl hg) (grow_lt hS0.out r5.size)⟩
  clear h hB ov hv hnn hF hnm f4 g4 z4 hr4 f5 g5 z5 hr5 fq ov4 hn4 R4 R1 hb htn hn
  go_enter Try.func54, Try.ntmps54
  go_wp2_with (first | (at_delete; refine list_run (by rfl) (ex_del _ _ (by rfl) (by rfl) (by rfl) HR.out) ?_) | (at_mapUpdate; refine list_skip (by rfl) (ex_put _ _ _ (by rfl) (by rfl) (by rfl) (by rfl) HR5.out) ?_))
  refine bodyPost_end (results_none (by kernel_rfl) _ _ _) rfl ?_
  obtain ⟨r4, F4, f4⟩ := FF.out
  exact ⟨⟨_, rfl⟩, F4, f4, r4⟩
/-- A change as a value. -/
def chv (c : Ch) : Array Value := #[.int .i64 (c.kind : Int), .string c.name, .string c.dst, .int .i64 (c.pos : Int), .string c.s]
/-- One change is done to files. -/
theorem playOne_any (c : Ch) (w : World) (h : Fs w b F f S) (ok : okC f c) :
    Calls Try.prog 54 #[.map (some b), .agg (chv c)] w fun e w' => (∃ r, e = .returned r) ∧ ∃ F', Fs w' b F' (doC f c) (grow S w w') ∧ Fr S w w' := by
  obtain ⟨kind, nm, tn, pos, s⟩ := c
  have h3 := ok.kind
  have : kind = 0 ∨ kind = 1 ∨ kind = 2 ∨ kind = 3 := by simp at h3; omega
  rcases this with rfl | rfl | rfl | rfl
  · exact playOne_write nm tn s pos w h ok.name (ok.pos (Nat.zero_le _)) ok.len ok.n
  · exact playOne_cut nm tn s pos w h ok.name (ok.pos (Nat.le_refl _)) ok.n
  · exact playOne_move nm tn s pos w h ok.name ok.dst ok.n
  · exact playOne_del nm tn s pos w h ok.name
end
end Go.Proofs.Ythnfpdmhjennlaa
