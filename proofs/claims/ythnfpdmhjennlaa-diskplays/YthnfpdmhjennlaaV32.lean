/- The law's plan and files. -/
import Derived.Test.YthnfpdmhjennlaaV31
namespace Go.Proofs.Ythnfpdmhjennlaa
open Go.RowKit
open Go.Deep
open Go.Lib
set_option linter.unusedVariables false
theorem run_bldFr (f : Fl) (w : World) : (Instr.build 93 #[(0, .int .i64 f.pos), (1, .int .i64 f.keep), (2, .int .i64 f.torn), (3, .bool f.sync)]).run Try.prog w = .ok (.agg #[.int .i64 f.pos, .int .i64 f.keep, .int .i64 f.torn, .bool f.sync]) w := by kernel_rfl
section
set_option maxRecDepth 10000
set_option maxHeartbeats 4000000
theorem lplan_any (K : Nat → Prop) (P : List Fl) (v : Value) (w : World) (hv : LX KFl w v P) (hz : P.length * 32 ≤ 140737488355328) (hK : ∀ g, K g → g < w.heap.size) : Calls Try.prog 22 #[v] w fun e w' => ∃ v', e = .returned v' ∧ LXK KFr K w' v' P ∧ Below w.heap.size w w' := by
  have HV := hide hv
  obtain ⟨ao, cc, rfl⟩ := hv.form
  have HZ := hide hz
  have HK := hide hK
  have h5 := bs0KFr
  have J0 := hide (Lw.empty (E := KFr) (Below.refl w.heap.size w))
  have h5 : ∀ W : World, (Instr.buildSlice 28 0 #[]).run Try.prog W = .ok (.slice (some ⟨W.heap.size, 0, none⟩) 0 0) (W.alloc (.cells #[] 93)) := bs0KFr
  clear hv hz hK
  go_enter Try.func22, Try.ntmps22
  go_wp2
  clear h5
  have J0 : Hid (Lw KFr w (w.alloc (.cells #[] 93)) (.slice (some ⟨w.heap.size, 0, none⟩) 0 0) (P.take 0)) := J0
  generalize w.alloc (.cells #[] 93) = W0 at *
  go_loopw [3, 4] (fun u i wr => ∃ k : Nat, k ≤ P.length ∧ i = .int .i64 (k : Int) ∧ Hid (Lw KFr w wr u (P.take k))) (fun _ i _ => (P.length - intOf i).toNat)
  case atStart => exact ⟨0, Nat.zero_le _, rfl, J0⟩
  case round =>
    clear J0
    obtain ⟨k, hk, rfl, J⟩ := hrel
    by_cases hlt : k < P.length
    · obtain ⟨g, off, rfl⟩ := HV.out.base (by omega)
      have hr := HV.out.range k hlt
      have gl := HV.out.lt (by omega)
      have GL := hide gl
      have h0 : (0 : Int) ≤ (k : Int) := by omega
      have h2 : (k : Int) < P.length := by omega
      have e1 : IntKind.i64.wrap ((k : Int) + 1) = k + 1 := wrapI _ (by omega) (by have := HZ.out; omega)
      have NX : Hid (P.take (k + 1) = P.take k ++ [P[k]]) := List.take_succ_eq_append_getElem hlt
      have HR : Hid (w.rangeAt g (off + k * 4) (flv P[k])) := hr
      have SZ : Hid (((P.take k).length + 1) * KFr.b ≤ 140737488355328 ∧ (P.take k).length + 1 ≤ maxLen) := by
        have := HZ.out
        rw [List.length_take]
        exact ⟨show (min k P.length + 1) * 32 ≤ _ by omega, by unfold maxLen; omega⟩
      generalize P[k] = f at *
      have LT := hide hlt
      clear hr gl hlt hk
      obtain ⟨ao5, c5, e5⟩ := J.out.ox.form
      subst e5
      have FRR : Hid (∀ W, Below w.heap.size w W → W.cell? ⟨g, off + k * 4, none⟩ = some (.int .i64 f.pos) ∧ W.cell? ⟨g, off + k * 4 + 1, none⟩ = some (.int .i64 f.keep) ∧ W.cell? ⟨g, off + k * 4 + 2, none⟩ = some (.int .i64 f.torn) ∧ W.cell? ⟨g, off + k * 4 + 3, none⟩ = some (.bool f.sync)) := fun W b => by
        have r := rangeX_below HR.out b GL.out
        exact ⟨r 0 _ rfl, r 1 _ rfl, r 2 _ rfl, r 3 _ rfl⟩
      go_upto_region 5 with fail
      refine wp_region_held_drew (S := fun W => W.cell? ⟨g, off + k * 4, none⟩ = some (.int .i64 f.pos) ∧ W.cell? ⟨g, off + k * 4 + 1, none⟩ = some (.int .i64 f.keep) ∧ W.cell? ⟨g, off + k * 4 + 2, none⟩ = some (.int .i64 f.torn) ∧ W.cell? ⟨g, off + k * 4 + 3, none⟩ = some (.bool f.sync)) (by kernel_rfl) (FRR.out _ J.out.bel.drew) (fun hH => ?_)
      refine wpAnyH_take (i := 0) (v := .slice ao5 (P.take k).length c5) rfl (by kernel_rfl) (by kernel_rfl) (by kernel_rfl) (fun _ _ _ h => h) (yl_move (by rfl) _ (by rfl) _ (by rfl)) hH ?_
      change wpAnyH _ _ _ _ _ _ _ (Act.put _ (some 12) _) _
      simp only [Act.put, List.setIfInBounds_toArray, List.set_cons_zero, List.set_cons_succ]
      refine wpAnyH_take (i := 1) (v := .slice (some ⟨g, off, none⟩) P.length cc) rfl (by kernel_rfl) (by kernel_rfl) (by kernel_rfl) (fun _ _ _ h => h) (yl_move (by rfl) _ (by rfl) _ (by rfl)) hH ?_
      change wpAnyH _ _ _ _ _ _ _ (Act.put _ (some 13) _) _
      simp only [Act.put, List.setIfInBounds_toArray, List.set_cons_zero, List.set_cons_succ]
      refine wpAnyH_take (i := 2) (v := .int .i64 (k : Int)) rfl (by kernel_rfl) (by kernel_rfl) (by kernel_rfl) (fun _ _ _ h => h) (yl_move (by rfl) _ (by rfl) _ (by rfl)) hH ?_
      change wpAnyH _ _ _ _ _ _ _ (Act.put _ (some 14) _) _
      simp only [Act.put, List.setIfInBounds_toArray, List.set_cons_zero, List.set_cons_succ]
      refine wpAnyH_take (i := 3) (v := .pointer (some ⟨g, off + k * 4, none⟩)) rfl (by kernel_rfl) (by kernel_rfl) (by kernel_rfl) (fun _ _ _ h => h) (.inl ⟨by rfl, fun W _ => by go_simp⟩) hH ?_
      change wpAnyH _ _ _ _ _ _ _ (Act.put _ (some 15) _) _
      simp only [Act.put, List.setIfInBounds_toArray, List.set_cons_zero, List.set_cons_succ]
      refine wpAnyH_take (i := 4) (v := .pointer (some ⟨g, off + k * 4, none⟩)) rfl (by kernel_rfl) (by kernel_rfl) (by kernel_rfl) (fun _ _ _ h => h) (.inl ⟨by rfl, fun W _ => by go_simp⟩) hH ?_
      change wpAnyH _ _ _ _ _ _ _ (Act.put _ (some 16) _) _
      simp only [Act.put, List.setIfInBounds_toArray, List.set_cons_zero, List.set_cons_succ]
      refine wpAnyH_take (i := 5) (v := .int .i64 f.pos) rfl (by kernel_rfl) (by kernel_rfl) (by kernel_rfl) (fun _ _ _ h => h) (.inl ⟨by rfl, fun W hS => by have c4 := hS.1; go_simp⟩) hH ?_
      change wpAnyH _ _ _ _ _ _ _ (Act.put _ (some 17) _) _
      simp only [Act.put, List.setIfInBounds_toArray, List.set_cons_zero, List.set_cons_succ]
      refine wpAnyH_take (i := 6) (v := .slice (some ⟨g, off, none⟩) P.length cc) rfl (by kernel_rfl) (by kernel_rfl) (by kernel_rfl) (fun _ _ _ h => h) (yl_move (by rfl) _ (by rfl) _ (by rfl)) hH ?_
      change wpAnyH _ _ _ _ _ _ _ (Act.put _ (some 18) _) _
      simp only [Act.put, List.setIfInBounds_toArray, List.set_cons_zero, List.set_cons_succ]
      refine wpAnyH_take (i := 7) (v := .int .i64 (k : Int)) rfl (by kernel_rfl) (by kernel_rfl) (by kernel_rfl) (fun _ _ _ h => h) (yl_move (by rfl) _ (by rfl) _ (by rfl)) hH ?_
      change wpAnyH _ _ _ _ _ _ _ (Act.put _ (some 19) _) _
      simp only [Act.put, List.setIfInBounds_toArray, List.set_cons_zero, List.set_cons_succ]
      refine wpAnyH_take (i := 8) (v := .pointer (some ⟨g, off + k * 4, none⟩)) rfl (by kernel_rfl) (by kernel_rfl) (by kernel_rfl) (fun _ _ _ h => h) (.inl ⟨by rfl, fun W _ => by go_simp⟩) hH ?_
      change wpAnyH _ _ _ _ _ _ _ (Act.put _ (some 20) _) _
      simp only [Act.put, List.setIfInBounds_toArray, List.set_cons_zero, List.set_cons_succ]
      refine wpAnyH_take (i := 9) (v := .pointer (some ⟨g, off + k * 4 + 1, none⟩)) rfl (by kernel_rfl) (by kernel_rfl) (by kernel_rfl) (fun _ _ _ h => h) (.inl ⟨by rfl, fun W _ => by go_simp⟩) hH ?_
      change wpAnyH _ _ _ _ _ _ _ (Act.put _ (some 21) _) _
      simp only [Act.put, List.setIfInBounds_toArray, List.set_cons_zero, List.set_cons_succ]
      refine wpAnyH_take (i := 10) (v := .int .i64 f.keep) rfl (by kernel_rfl) (by kernel_rfl) (by kernel_rfl) (fun _ _ _ h => h) (.inl ⟨by rfl, fun W hS => by have c4 := hS.2.1; go_simp⟩) hH ?_
      change wpAnyH _ _ _ _ _ _ _ (Act.put _ (some 22) _) _
      simp only [Act.put, List.setIfInBounds_toArray, List.set_cons_zero, List.set_cons_succ]
      refine wpAnyH_take (i := 11) (v := .slice (some ⟨g, off, none⟩) P.length cc) rfl (by kernel_rfl) (by kernel_rfl) (by kernel_rfl) (fun _ _ _ h => h) (yl_move (by rfl) _ (by rfl) _ (by rfl)) hH ?_
      change wpAnyH _ _ _ _ _ _ _ (Act.put _ (some 23) _) _
      simp only [Act.put, List.setIfInBounds_toArray, List.set_cons_zero, List.set_cons_succ]
      refine wpAnyH_take (i := 12) (v := .int .i64 (k : Int)) rfl (by kernel_rfl) (by kernel_rfl) (by kernel_rfl) (fun _ _ _ h => h) (yl_move (by rfl) _ (by rfl) _ (by rfl)) hH ?_
      change wpAnyH _ _ _ _ _ _ _ (Act.put _ (some 24) _) _
      simp only [Act.put, List.setIfInBounds_toArray, List.set_cons_zero, List.set_cons_succ]
      refine wpAnyH_take (i := 13) (v := .pointer (some ⟨g, off + k * 4, none⟩)) rfl (by kernel_rfl) (by kernel_rfl) (by kernel_rfl) (fun _ _ _ h => h) (.inl ⟨by rfl, fun W _ => by go_simp⟩) hH ?_
      change wpAnyH _ _ _ _ _ _ _ (Act.put _ (some 25) _) _
      simp only [Act.put, List.setIfInBounds_toArray, List.set_cons_zero, List.set_cons_succ]
      refine wpAnyH_take (i := 14) (v := .pointer (some ⟨g, off + k * 4 + 2, none⟩)) rfl (by kernel_rfl) (by kernel_rfl) (by kernel_rfl) (fun _ _ _ h => h) (.inl ⟨by rfl, fun W _ => by go_simp⟩) hH ?_
      change wpAnyH _ _ _ _ _ _ _ (Act.put _ (some 26) _) _
      simp only [Act.put, List.setIfInBounds_toArray, List.set_cons_zero, List.set_cons_succ]
      refine wpAnyH_take (i := 15) (v := .int .i64 f.torn) rfl (by kernel_rfl) (by kernel_rfl) (by kernel_rfl) (fun _ _ _ h => h) (.inl ⟨by rfl, fun W hS => by have c4 := hS.2.2.1; go_simp⟩) hH ?_
      change wpAnyH _ _ _ _ _ _ _ (Act.put _ (some 27) _) _
      simp only [Act.put, List.setIfInBounds_toArray, List.set_cons_zero, List.set_cons_succ]
      refine wpAnyH_take (i := 16) (v := .slice (some ⟨g, off, none⟩) P.length cc) rfl (by kernel_rfl) (by kernel_rfl) (by kernel_rfl) (fun _ _ _ h => h) (yl_move (by rfl) _ (by rfl) _ (by rfl)) hH ?_
      change wpAnyH _ _ _ _ _ _ _ (Act.put _ (some 28) _) _
      simp only [Act.put, List.setIfInBounds_toArray, List.set_cons_zero, List.set_cons_succ]
      refine wpAnyH_take (i := 17) (v := .int .i64 (k : Int)) rfl (by kernel_rfl) (by kernel_rfl) (by kernel_rfl) (fun _ _ _ h => h) (yl_move (by rfl) _ (by rfl) _ (by rfl)) hH ?_
      change wpAnyH _ _ _ _ _ _ _ (Act.put _ (some 29) _) _
      simp only [Act.put, List.setIfInBounds_toArray, List.set_cons_zero, List.set_cons_succ]
      refine wpAnyH_take (i := 18) (v := .pointer (some ⟨g, off + k * 4, none⟩)) rfl (by kernel_rfl) (by kernel_rfl) (by kernel_rfl) (fun _ _ _ h => h) (.inl ⟨by rfl, fun W _ => by go_simp⟩) hH ?_
      change wpAnyH _ _ _ _ _ _ _ (Act.put _ (some 30) _) _
      simp only [Act.put, List.setIfInBounds_toArray, List.set_cons_zero, List.set_cons_succ]
      refine wpAnyH_take (i := 19) (v := .pointer (some ⟨g, off + k * 4 + 3, none⟩)) rfl (by kernel_rfl) (by kernel_rfl) (by kernel_rfl) (fun _ _ _ h => h) (.inl ⟨by rfl, fun W _ => by go_simp⟩) hH ?_
      change wpAnyH _ _ _ _ _ _ _ (Act.put _ (some 31) _) _
      simp only [Act.put, List.setIfInBounds_toArray, List.set_cons_zero, List.set_cons_succ]
      refine wpAnyH_take (i := 20) (v := .bool f.sync) rfl (by kernel_rfl) (by kernel_rfl) (by kernel_rfl) (fun _ _ _ h => h) (.inl ⟨by rfl, fun W hS => by have c4 := hS.2.2.2; go_simp⟩) hH ?_
      change wpAnyH _ _ _ _ _ _ _ (Act.put _ (some 32) _) _
      simp only [Act.put, List.setIfInBounds_toArray, List.set_cons_zero, List.set_cons_succ]
      refine wpAnyH_take (i := 21) (v := .agg #[.int .i64 f.pos, .int .i64 f.keep, .int .i64 f.torn, .bool f.sync]) rfl (by kernel_rfl) (by kernel_rfl) (by kernel_rfl) (fun _ _ _ h => h) (yl_build (by rfl) _ (by rfl) _ _ (by simp only [List.map_toArray, List.map_cons, List.map_nil]; rfl) (fun W => run_bldFr f W)) hH ?_
      change wpAnyH _ _ _ _ _ _ _ (Act.put _ (some 33) _) _
      simp only [Act.put, List.setIfInBounds_toArray, List.set_cons_zero, List.set_cons_succ]
      have BD := hide (Below.refl wr.heap.size wr).drew
      have JD := hide (J.out.next BD.out)
      generalize wr.drew = wd at *
      refine wpAnyH_ready (rs := [22]) (by kernel_rfl) (by simp) (AllReadyH.cons rfl (fun K1 hK1 => ?_) AllReadyH.nil)
      refine KFr.stepBs1 (by rfl) _ (by rfl) f (by rfl) ?_
      have J2 := hide (Lw2.first (x := f) JD.out)
      obtain ⟨u2, hu2⟩ : ∃ u2, u2 = (Value.slice (some ⟨wd.heap.size, 0, none⟩) 1 1) := ⟨_, rfl⟩
      rw [← hu2] at J2 ⊢
      clear hu2
      generalize wd.alloc (.cells (KFr.enc f).toArray KFr.e) = w2 at *
      refine hK1.out _ _ (FRR.out _ J2.out.a.bel) (fun hH => ?_)
      clear hK1
      change wpAnyH _ _ _ _ _ _ _ (Act.put _ (some 34) _) _
      simp only [Act.put, List.setIfInBounds_toArray, List.set_cons_zero, List.set_cons_succ]
      refine wpAnyH_ready (rs := [23]) (by kernel_rfl) (by simp) (AllReadyH.cons rfl (fun K1 hK1 => ?_) AllReadyH.nil)
      refine KFr.stepAppL (by rfl) _ _ (by rfl) (.slice ao5 (P.take k).length c5) _ (by rfl) J2.out.a.ox u2 [f] (by rfl) J2.out.b.ox.read SZ.out.1 SZ.out.2 ?_
      intro v3 w3 o3 n3
      have J3 := hide (J2.out.app o3 n3)
      clear o3 n3
      rw [← NX.out] at J3
      refine hK1.out _ _ (FRR.out _ J3.out.a.bel) (fun hH => ?_)
      clear hK1
      change wpAnyH _ _ _ _ _ _ _ (Act.put _ (some 35) _) _
      simp only [Act.put, List.setIfInBounds_toArray, List.set_cons_zero, List.set_cons_succ]
      refine wpAnyH_take (i := 24) (v := v3) rfl (by kernel_rfl) (by kernel_rfl) (by kernel_rfl) (fun _ _ _ h => h) (.inl ⟨by rfl, fun W _ => by go_simp⟩) hH ?_
      change wpAnyH _ _ _ _ _ _ _ (Act.put _ (some 3) _) _
      simp only [Act.put, List.setIfInBounds_toArray, List.set_cons_zero, List.set_cons_succ]
      refine wpAnyH_done (by kernel_rfl) ?_ _
      go_wp2
      go_round
      case rel => exact ⟨k + 1, LT.out, by go_num, J3.out.a⟩
      case measure => have := LT.out; simp [intOf]; omega
    · have h2 : ¬ (k : Int) < (P.length : Int) := by omega
      have hkn : k = P.length := by omega
      have JE : Hid (Lw KFr w wr u3 P) := by
        have := J.out
        rw [hkn, List.take_length] at this
        exact this
      go_wp2
      go_ret
      exact ⟨_, rfl, JE.out.lxk HK.out, JE.out.bel⟩
/-- Names that can be keys. -/
def NmF (f : FS) : Prop := ∀ k, (f.get k).isSome = true → k.length ≤ 32
theorem back_b (s : ByteArray) : (⟨(ls s).toArray⟩ : ByteArray) = s := by simp [ls]
theorem lfiles_any (L : List Fi) (f : FS) (b : Nat) (v : Value) (w : World) (hm : Mt w b f.get f.n) (hv : LX KFi w v L) (hr : Rep L f) (hN : NmF f) (hn : f.n ≤ 64) : Calls Try.prog 29 #[.map (some b), v] w fun e w' => e = .returned (.bool true) ∧ Below w.heap.size w w' := by
  have hlen := hm.len 3
  have HV := hide hv
  obtain ⟨ao, cc, rfl⟩ := hv.form
  have e0 : (f.n : Int) = (L.length : Int) := by rw [hr.n]
  rw [e0] at hlen
  have HL := hide (show L.length ≤ 64 by rw [← hr.n]; exact hn)
  have HM := hide hm
  have HR := hide hr
  have HNm := hide hN
  clear hm hv hr hN hn e0
  go_enter Try.func29, Try.ntmps29
  go_wp2
  clear hlen
  go_loopw [5, 6, 7] (fun i t6 t7 wr => wr = w ∧ ∃ k : Nat, k ≤ L.length ∧ i = .int .i64 (k : Int)) (fun i _ _ _ => (L.length - intOf i).toNat)
  case atStart => exact ⟨rfl, 0, Nat.zero_le _, rfl⟩
  case round =>
    obtain ⟨rfl, k, hk, rfl⟩ := hrel
    by_cases hlt : k < L.length
    · obtain ⟨g, off, rfl⟩ := HV.out.base (by omega)
      have hr := HV.out.range k hlt
      have d0 : wr.cell? ⟨g, off + k * 2, none⟩ = some (.string L[k].nm) := hr 0 _ rfl
      have d1 : wr.cell? ⟨g, off + k * 2 + 1, none⟩ = some (.string L[k].s) := hr 1 _ rfl
      have h0 : (0 : Int) ≤ (k : Int) := by omega
      have h2 : (k : Int) < L.length := by omega
      have e1 : IntKind.i64.wrap ((k : Int) + 1) = k + 1 := wrapI _ (by omega) (by have := HL.out; omega)
      have hg := HR.out.at_ hlt
      have hsz : L[k].nm.size ≤ maxLen := by
        have := HNm.out (ls L[k].nm) (by rw [hg]; rfl)
        rw [ls_len] at this
        unfold maxLen
        omega
      have lk := HM.out.look_ok hsz hg
      rw [back_b] at lk
      clear hr hg hsz
      generalize L[k] = a at *
      have ts := tl_same a.s
      have LT := hide hlt
      clear hlt hk
      go_wp2
      go_round
      case rel => exact ⟨trivial, k + 1, LT.out, by go_num⟩
      case measure => have := LT.out; simp [intOf]; omega
    · have h2 : ¬ (k : Int) < (L.length : Int) := by omega
      go_wp2
      go_ret
      exact ⟨rfl, Below.refl _ _⟩
end
end Go.Proofs.Ythnfpdmhjennlaa
