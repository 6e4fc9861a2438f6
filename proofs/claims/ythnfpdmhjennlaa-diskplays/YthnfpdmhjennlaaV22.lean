/- The document's files: with. -/
import Derived.Test.YthnfpdmhjennlaaV21
import Derived.Sort.Walk0
import Derived.BigQuiet
namespace Go.Proofs.Ythnfpdmhjennlaa
open Go.RowKit
open Go.Deep
open Go.Lib
set_option linter.unusedVariables false
theorem AFi : Arr 69 2 #[.string ⟨#[]⟩, .string ⟨#[]⟩] := ⟨.inr ⟨_, Try.underlying69⟩, by kernel_rfl, fun w => by kernel_rfl, fun w => by kernel_rfl, rfl⟩
theorem less_yes {a b : ByteArray} (h : ls a < ls b) : Op.bytesLess a.toList b.toList = true := by
  rw [Go.Proofs.bytesLess_eq, Go.Lib.toList_data, Go.Lib.toList_data]
  exact decide_eq_true h
theorem less_no {a b : ByteArray} (h : ¬ ls a < ls b) : Op.bytesLess a.toList b.toList = false := by
  rw [Go.Proofs.bytesLess_eq, Go.Lib.toList_data, Go.Lib.toList_data]
  exact decide_eq_false h
section
set_option maxRecDepth 10000
set_option maxHeartbeats 4000000
theorem rwith_any (K : Nat → Prop) (L : List Fi) (f : FS) (v : Value) (nm s : ByteArray) (w : World) (hv : LX KFi w v L) (hr : Rep L f) (hl : L.length ≤ 1000) (hK : ∀ g, K g → g < w.heap.size) : Calls Try.prog 56 #[v, .agg #[.string nm, .string s]] w fun e w' => ∃ v' L', e = .returned v' ∧ LXK KFi K w' v' L' ∧ Rep L' (f.put (ls nm) (ls s)) ∧ Below w.heap.size w w' := by
  have hB : Below w.heap.size w (w.alloc (.cells #[.string nm, .string s] 69)) := (Below.refl _ _).alloc (Nat.le_refl _) _
  have HB := hide hB
  have R1 := hide (heap_alloc_last w (.cells #[.string nm, .string s] 69))
  have H1 := hide (hv.below hB)
  have HR := hide hr
  have HL := hide hl
  have HK := hide hK
  have HM := hide (Nat.le_trans (wo_le L nm) hl)
  clear hB hv hr hl hK
  go_enter Try.func56, Try.ntmps56
  go_upto_region 1 with fail
  generalize hgb : w.heap.size = gb at *
  generalize w.alloc (.cells #[.string nm, .string s] 69) = W1 at *
  have C0 : Hid (∀ W : World, W.heap[gb]? = some (.cells #[.string nm, .string s] 69 (0, 0)) → W.cell? ⟨gb, 0, none⟩ = some (.string nm)) := fun W hW => by rw [cell_of_row _ _ _ _ _ _ hW]; rfl
  have c0 := C0.out _ R1.out
  go_upto_region 2 with (go_at_call 57; refine (rwithout_any L v nm _ H1.out (by have := HL.out; omega)).mono ?_; rintro e W2 ⟨v2, rfl, o2, f2, b2⟩; have J2 : Hid (Lw KFi W1 W2 v2 (woL L nm)) := ⟨o2, f2, b2⟩; have R2 := hide ((b2.block _ (lt_heap R1.out)).trans R1.out); clear o2 f2 b2)
  clear c0 H1
  have NI : Hid (∀ k, k ≤ (woL L nm).length → (∀ y ∈ (woL L nm).take k, ls y.nm < ls nm) → (∀ c : k < (woL L nm).length, ¬ ls (woL L nm)[k].nm < ls nm) → Rep ((woL L nm).take k ++ [⟨nm, s⟩] ++ (woL L nm).drop k) (f.put (ls nm) (ls s))) := fun k a b c => HR.out.ins nm s k a b c
  generalize woL L nm = M at *
  obtain ⟨ao, cc, rfl⟩ := J2.out.ox.form
  have MC : Hid (M.length ≤ cc) := by
    obtain ⟨_, _, e, h2, _⟩ := J2.out.ox.read
    cases e
    exact h2
  go_wp2
  go_loopw [5] (fun i wr => ∃ k : Nat, k ≤ M.length ∧ i = .int .i64 (k : Int) ∧ Hid (∀ y ∈ M.take k, ls y.nm < ls nm) ∧ Hid (Below W2.heap.size W2 wr)) (fun i _ => (M.length - intOf i).toNat)
  case atStart => exact ⟨0, Nat.zero_le _, rfl, fun y hy => by simp at hy, Below.refl _ _⟩
  case round =>
    obtain ⟨k, hk, rfl, HN, BW⟩ := hrel
    have JW := hide (J2.out.next BW.out)
    have RW := hide ((BW.out.block _ (lt_heap R2.out)).trans R2.out)
    have KL := hide hk
    have h0 : (0 : Int) ≤ (k : Int) := by omega
    have cn := C0.out _ RW.out
    by_cases hlt : k < M.length
    · have LT := hide hlt
      obtain ⟨g, off, rfl⟩ := JW.out.ox.read.base (by omega)
      have hr := JW.out.ox.read.range k hlt
      have c0 : wr.cell? ⟨g, off + k * 2, none⟩ = some (.string M[k].nm) := hr 0 _ rfl
      have h2 : (k : Int) < M.length := by omega
      have d2 : decide ((k : Int) < (M.length : Int)) = true := decide_eq_true h2
      have e1 : IntKind.i64.wrap ((k : Int) + 1) = k + 1 := wrapI _ (by omega) (by have := HM.out; omega)
      have HX : Hid (ls M[k].nm < ls nm → ∀ y ∈ M.take (k + 1), ls y.nm < ls nm) := fun c y hy => by
        rw [List.take_succ_eq_append_getElem hlt] at hy
        rcases List.mem_append.1 hy with hy | hy
        · exact HN.out y hy
        · rw [List.mem_singleton.1 hy]; exact c
      have HY : Hid (¬ ls M[k].nm < ls nm → Rep (M.take k ++ [⟨nm, s⟩] ++ M.drop k) (f.put (ls nm) (ls s))) := fun c => NI.out k (by omega) HN.out (fun _ => c)
      clear hr hk hlt
      generalize M[k] = a at *
      by_cases hab : ls a.nm < ls nm
      · have hlss := less_yes hab
        have HX2 := hide (HX.out hab)
        clear HX HY hab NI HN
        go_upto_region 3 with fail
        go_quiet (fail)
        go_wp2
        go_round
        case rel => exact ⟨k + 1, LT.out, by go_num, HX2, below_drewN BW.out _⟩
        case measure => have := LT.out; simp [intOf]; omega
      · have hlss := less_no hab
        have HX2 := hide (HY.out hab)
        clear HX HY hab NI HN
        go_upto_region 3 with fail
        go_quiet (fail)
        go_upto_region 5 with fail
        have J3 := hide (JW.out.next (below_drewN (Below.refl wr.heap.size wr) nq))
        have R3 : Hid ((wr.drewN nq).heap[gb]? = some (.cells #[.string nm, .string s] 69 (0, 0))) := RW.out
        clear JW RW BW cn c0
        generalize wr.drewN nq = wz at *
        have LM := hide (J3.out.ox.read)
        obtain ⟨ab, hab, hlx⟩ := KFi.cutB (some ⟨g, off, none⟩) M.length cc k KL.out MC.out
        have HCB := hide hab
        have HLX := hide hlx
        clear hab hlx h2 d2 h0 e1 hlss
        have FR : Hid (∀ W, Below wz.heap.size wz W → W.heap[gb]? = some (.cells #[.string nm, .string s] 69 (0, 0))) := fun W b => (b.block _ (lt_heap R3.out)).trans R3.out
        refine wp_region_held_drew (S := fun W => W.heap[gb]? = some (.cells #[.string nm, .string s] 69 (0, 0))) (by kernel_rfl) (FR.out _ (Below.refl _ _).drew) (fun hH => ?_)
        refine wpAnyH_take (i := 1) (v := .slice (some ⟨g, off, none⟩) M.length cc) rfl (by kernel_rfl) (by kernel_rfl) (by kernel_rfl) (fun _ _ _ h => h) (yl_move (by rfl) _ (by rfl) _ (by rfl)) hH ?_
        change wpAnyH _ _ _ _ _ _ _ (Act.put _ (some 27) _) _
        simp only [Act.put, List.setIfInBounds_toArray, List.set_cons_zero, List.set_cons_succ]
        refine wpAnyH_take (i := 2) (v := .int .i64 (k : Int)) rfl (by kernel_rfl) (by kernel_rfl) (by kernel_rfl) (fun _ _ _ h => h) (yl_move (by rfl) _ (by rfl) _ (by rfl)) hH ?_
        change wpAnyH _ _ _ _ _ _ _ (Act.put _ (some 28) _) _
        simp only [Act.put, List.setIfInBounds_toArray, List.set_cons_zero, List.set_cons_succ]
        refine wpAnyH_take (i := 3) (v := .slice (some ⟨g, off, none⟩) k cc) rfl (by kernel_rfl) (by kernel_rfl) (by kernel_rfl) (fun _ _ _ h => h) (yl_slice (by rfl) _ _ _ (by rfl) _ _ (by rfl) _ _ (by rfl) (by rfl) (fun W => KFi.cutF (some ⟨g, off, none⟩) M.length cc k KL.out MC.out W)) hH ?_
        change wpAnyH _ _ _ _ _ _ _ (Act.put _ (some 29) _) _
        simp only [Act.put, List.setIfInBounds_toArray, List.set_cons_zero, List.set_cons_succ]
        refine wpAnyH_take (i := 5) (v := .agg #[.string nm, .string s]) rfl (by kernel_rfl) (by kernel_rfl) (by kernel_rfl) (fun _ _ _ h => h) (yl_load (by rfl) _ (by rfl) _ _ (by rfl) (fun W hS => ld_row AFi rfl hS)) hH ?_
        change wpAnyH _ _ _ _ _ _ _ (Act.put _ (some 31) _) _
        simp only [Act.put, List.setIfInBounds_toArray, List.set_cons_zero, List.set_cons_succ]
        refine wpAnyH_take (i := 8) (v := .slice (some ⟨g, off, none⟩) M.length cc) rfl (by kernel_rfl) (by kernel_rfl) (by kernel_rfl) (fun _ _ _ h => h) (yl_move (by rfl) _ (by rfl) _ (by rfl)) hH ?_
        change wpAnyH _ _ _ _ _ _ _ (Act.put _ (some 34) _) _
        simp only [Act.put, List.setIfInBounds_toArray, List.set_cons_zero, List.set_cons_succ]
        refine wpAnyH_take (i := 9) (v := .int .i64 (k : Int)) rfl (by kernel_rfl) (by kernel_rfl) (by kernel_rfl) (fun _ _ _ h => h) (yl_move (by rfl) _ (by rfl) _ (by rfl)) hH ?_
        change wpAnyH _ _ _ _ _ _ _ (Act.put _ (some 35) _) _
        simp only [Act.put, List.setIfInBounds_toArray, List.set_cons_zero, List.set_cons_succ]
        refine wpAnyH_take (i := 10) (v := .slice ab (M.length - k) (cc - k)) rfl (by kernel_rfl) (by kernel_rfl) (by kernel_rfl) (fun _ _ _ h => h) (yl_slice (by rfl) _ _ _ (by rfl) _ _ (by rfl) _ _ (by rfl) (by rfl) (fun W => HCB.out W)) hH ?_
        change wpAnyH _ _ _ _ _ _ _ (Act.put _ (some 36) _) _
        simp only [Act.put, List.setIfInBounds_toArray, List.set_cons_zero, List.set_cons_succ]
        have BD := hide (Below.refl wz.heap.size wz).drew
        have SZ : Hid (wz.drew.heap.size = wz.heap.size) := rfl
        generalize wz.drew = wd at *
        have ZA : Hid ((([] : List Fi).length + (M.take k).length) * KFi.b ≤ 140737488355328 ∧ ([] : List Fi).length + (M.take k).length ≤ maxLen) := by have := HM.out; have h3 := KL.out; rw [List.length_take]; exact ⟨show (0 + min k M.length) * 32 ≤ _ by omega, show 0 + min k M.length ≤ _ by unfold maxLen; omega⟩
        have ZB : Hid (((([] : List Fi) ++ M.take k).length + [(⟨nm, s⟩ : Fi)].length) * KFi.b ≤ 140737488355328 ∧ (([] : List Fi) ++ M.take k).length + [(⟨nm, s⟩ : Fi)].length ≤ maxLen) := by have := HM.out; have h3 := KL.out; rw [List.nil_append, List.length_take, List.length_singleton]; exact ⟨show (min k M.length + 1) * 32 ≤ _ by omega, by unfold maxLen; omega⟩
        have ZC : Hid (((([] : List Fi) ++ M.take k ++ [(⟨nm, s⟩ : Fi)]).length + (M.drop k).length) * KFi.b ≤ 140737488355328 ∧ (([] : List Fi) ++ M.take k ++ [(⟨nm, s⟩ : Fi)]).length + (M.drop k).length ≤ maxLen) := by have := HM.out; have h3 := KL.out; rw [List.nil_append, List.length_append, List.length_take, List.length_singleton, List.length_drop]; exact ⟨show (min k M.length + 1 + (M.length - k)) * 32 ≤ _ by omega, by unfold maxLen; omega⟩
        have FIN : Hid (∀ g, K g → g < wz.heap.size) := fun g hg => by have h1 := HK.out g hg; have h2 := HB.out.size; rw [hgb] at h2; have h3 := J3.out.bel.size; omega
        have FINB : Hid (∀ W, Below wz.heap.size wz W → Below w.heap.size w W) := fun W b => by have h1 := HB.out; rw [← hgb] at h1; exact below_next (below_next h1 J3.out.bel) b
        refine wpAnyH_ready (rs := [0, 6]) (by kernel_rfl) (by simp) (AllReadyH.cons rfl (fun K1 hK1 => ?_) (AllReadyH.cons rfl (fun K1 hK1 => ?_) AllReadyH.nil))
        · refine KFi.stepBs0 (by rfl) (by rfl) (bs0KFi _) ?_
          have J1 := hide (Lw.empty (E := KFi) (w0 := wz) BD.out)
          generalize wd.alloc (.cells #[] KFi.e) = w120 at *
          have hz1 : Hid True := trivial
          obtain ⟨v1, hv1⟩ : ∃ v1, v1 = (Value.slice (some ⟨wd.heap.size, 0, none⟩) 0 0) := ⟨_, rfl⟩
          rw [← hv1] at J1 ⊢
          clear hv1
          show K1 (Act.put _ (some 26) _) _
          refine hK1.out _ _ (FR.out _ J1.out.bel) (fun hH => ?_)
          clear hK1
          change wpAnyH _ _ _ _ _ _ _ (Act.put _ (some 26) _) _
          simp only [Act.put, List.setIfInBounds_toArray, List.set_cons_zero, List.set_cons_succ]
          refine wpAnyH_ready (rs := [4, 6]) (by kernel_rfl) (by simp) (AllReadyH.cons rfl (fun K1 hK1 => ?_) (AllReadyH.cons rfl (fun K1 hK1 => ?_) AllReadyH.nil))
          · refine KFi.stepAppL (by rfl) _ _ (by rfl) v1 [] (by rfl) J1.out.ox (.slice (some ⟨g, off, none⟩) k cc) (M.take k) (by rfl) (LX.takeL KFi (LM.out.below J1.out.bel) KL.out) ZA.out.1 ZA.out.2 ?_
            intro v2 w224 o2 n2
            have J2 := hide (J1.out.app o2 n2)
            clear o2 n2
            show K1 (Act.put _ (some 30) _) _
            refine hK1.out _ _ (FR.out _ J2.out.bel) (fun hH => ?_)
            clear hK1
            change wpAnyH _ _ _ _ _ _ _ (Act.put _ (some 30) _) _
            simp only [Act.put, List.setIfInBounds_toArray, List.set_cons_zero, List.set_cons_succ]
            refine wpAnyH_ready (rs := [6]) (by kernel_rfl) (by simp) (AllReadyH.cons rfl (fun K1 hK1 => ?_) AllReadyH.nil)
            refine KFi.stepBs1 (by rfl) _ (by rfl) (⟨nm, s⟩ : Fi) (by rfl) ?_
            have J3 := hide (Lw2.first (x := (⟨nm, s⟩ : Fi)) J2.out)
            obtain ⟨u3, hu3⟩ : ∃ u3, u3 = (Value.slice (some ⟨w224.heap.size, 0, none⟩) 1 1) := ⟨_, rfl⟩
            rw [← hu3] at J3 ⊢
            clear hu3
            generalize w224.alloc (.cells (KFi.enc (⟨nm, s⟩ : Fi)).toArray KFi.e) = w316 at *
            show K1 (Act.put _ (some 32) _) _
            refine hK1.out _ _ (FR.out _ J3.out.a.bel) (fun hH => ?_)
            clear hK1
            change wpAnyH _ _ _ _ _ _ _ (Act.put _ (some 32) _) _
            simp only [Act.put, List.setIfInBounds_toArray, List.set_cons_zero, List.set_cons_succ]
            refine wpAnyH_ready (rs := [7]) (by kernel_rfl) (by simp) (AllReadyH.cons rfl (fun K1 hK1 => ?_) AllReadyH.nil)
            refine KFi.stepAppL (by rfl) _ _ (by rfl) v2 _ (by rfl) J3.out.a.ox u3 [⟨nm, s⟩] (by rfl) J3.out.b.ox.read ZB.out.1 ZB.out.2 ?_
            intro v4 w417 o4 n4
            have J4 := hide (J3.out.a.app o4 n4)
            clear o4 n4
            show K1 (Act.put _ (some 33) _) _
            refine hK1.out _ _ (FR.out _ J4.out.bel) (fun hH => ?_)
            clear hK1
            change wpAnyH _ _ _ _ _ _ _ (Act.put _ (some 33) _) _
            simp only [Act.put, List.setIfInBounds_toArray, List.set_cons_zero, List.set_cons_succ]
            refine wpAnyH_ready (rs := [11]) (by kernel_rfl) (by simp) (AllReadyH.cons rfl (fun K1 hK1 => ?_) AllReadyH.nil)
            refine KFi.stepAppL (by rfl) _ _ (by rfl) v4 _ (by rfl) J4.out.ox (.slice ab (M.length - k) (cc - k)) (M.drop k) (by rfl) (HLX.out _ _ (LM.out.below J4.out.bel)) ZC.out.1 ZC.out.2 ?_
            intro v5 w5111 o5 n5
            have J5 := hide (J4.out.app o5 n5)
            clear o5 n5
            rw [List.nil_append] at J5
            show K1 (Act.put _ (some 37) _) _
            refine hK1.out _ _ (FR.out _ J5.out.bel) (fun hH => ?_)
            clear hK1
            change wpAnyH _ _ _ _ _ _ _ (Act.put _ (some 37) _) _
            simp only [Act.put, List.setIfInBounds_toArray, List.set_cons_zero, List.set_cons_succ]
            refine wpAnyH_take (i := 12) (v := v5) rfl (by kernel_rfl) (by kernel_rfl) (by kernel_rfl) (fun _ _ _ h => h) (.inl ⟨by rfl, fun W _ => by go_simp⟩) hH ?_
            change wpAnyH _ _ _ _ _ _ _ (Act.put _ (some 4) _) _
            simp only [Act.put, List.setIfInBounds_toArray, List.set_cons_zero, List.set_cons_succ]
            refine wpAnyH_done (by kernel_rfl) ?_ _
            go_wp2
            go_ret
            exact ⟨_, _, rfl, J5.out.lxk (fun g hg => FIN.out g hg), HX2.out, FINB.out _ J5.out.bel⟩
          · refine KFi.stepBs1 (by rfl) _ (by rfl) (⟨nm, s⟩ : Fi) (by rfl) ?_
            have J2 := hide (Lw2.first (x := (⟨nm, s⟩ : Fi)) J1.out)
            obtain ⟨u2, hu2⟩ : ∃ u2, u2 = (Value.slice (some ⟨w120.heap.size, 0, none⟩) 1 1) := ⟨_, rfl⟩
            rw [← hu2] at J2 ⊢
            clear hu2
            generalize w120.alloc (.cells (KFi.enc (⟨nm, s⟩ : Fi)).toArray KFi.e) = w226 at *
            show K1 (Act.put _ (some 32) _) _
            refine hK1.out _ _ (FR.out _ J2.out.a.bel) (fun hH => ?_)
            clear hK1
            change wpAnyH _ _ _ _ _ _ _ (Act.put _ (some 32) _) _
            simp only [Act.put, List.setIfInBounds_toArray, List.set_cons_zero, List.set_cons_succ]
            refine wpAnyH_ready (rs := [4]) (by kernel_rfl) (by simp) (AllReadyH.cons rfl (fun K1 hK1 => ?_) AllReadyH.nil)
            refine KFi.stepAppL (by rfl) _ _ (by rfl) v1 [] (by rfl) J2.out.a.ox (.slice (some ⟨g, off, none⟩) k cc) (M.take k) (by rfl) (LX.takeL KFi (LM.out.below J2.out.a.bel) KL.out) ZA.out.1 ZA.out.2 ?_
            intro v3 w314 o3 n3
            have J3 := hide (J2.out.app o3 n3)
            clear o3 n3
            show K1 (Act.put _ (some 30) _) _
            refine hK1.out _ _ (FR.out _ J3.out.a.bel) (fun hH => ?_)
            clear hK1
            change wpAnyH _ _ _ _ _ _ _ (Act.put _ (some 30) _) _
            simp only [Act.put, List.setIfInBounds_toArray, List.set_cons_zero, List.set_cons_succ]
            refine wpAnyH_ready (rs := [7]) (by kernel_rfl) (by simp) (AllReadyH.cons rfl (fun K1 hK1 => ?_) AllReadyH.nil)
            refine KFi.stepAppL (by rfl) _ _ (by rfl) v3 _ (by rfl) J3.out.a.ox u2 [⟨nm, s⟩] (by rfl) J3.out.b.ox.read ZB.out.1 ZB.out.2 ?_
            intro v4 w417 o4 n4
            have J4 := hide (J3.out.a.app o4 n4)
            clear o4 n4
            show K1 (Act.put _ (some 33) _) _
            refine hK1.out _ _ (FR.out _ J4.out.bel) (fun hH => ?_)
            clear hK1
            change wpAnyH _ _ _ _ _ _ _ (Act.put _ (some 33) _) _
            simp only [Act.put, List.setIfInBounds_toArray, List.set_cons_zero, List.set_cons_succ]
            refine wpAnyH_ready (rs := [11]) (by kernel_rfl) (by simp) (AllReadyH.cons rfl (fun K1 hK1 => ?_) AllReadyH.nil)
            refine KFi.stepAppL (by rfl) _ _ (by rfl) v4 _ (by rfl) J4.out.ox (.slice ab (M.length - k) (cc - k)) (M.drop k) (by rfl) (HLX.out _ _ (LM.out.below J4.out.bel)) ZC.out.1 ZC.out.2 ?_
            intro v5 w5111 o5 n5
            have J5 := hide (J4.out.app o5 n5)
            clear o5 n5
            rw [List.nil_append] at J5
            show K1 (Act.put _ (some 37) _) _
            refine hK1.out _ _ (FR.out _ J5.out.bel) (fun hH => ?_)
            clear hK1
            change wpAnyH _ _ _ _ _ _ _ (Act.put _ (some 37) _) _
            simp only [Act.put, List.setIfInBounds_toArray, List.set_cons_zero, List.set_cons_succ]
            refine wpAnyH_take (i := 12) (v := v5) rfl (by kernel_rfl) (by kernel_rfl) (by kernel_rfl) (fun _ _ _ h => h) (.inl ⟨by rfl, fun W _ => by go_simp⟩) hH ?_
            change wpAnyH _ _ _ _ _ _ _ (Act.put _ (some 4) _) _
            simp only [Act.put, List.setIfInBounds_toArray, List.set_cons_zero, List.set_cons_succ]
            refine wpAnyH_done (by kernel_rfl) ?_ _
            go_wp2
            go_ret
            exact ⟨_, _, rfl, J5.out.lxk (fun g hg => FIN.out g hg), HX2.out, FINB.out _ J5.out.bel⟩
        · refine KFi.stepBs1 (by rfl) _ (by rfl) (⟨nm, s⟩ : Fi) (by rfl) ?_
          have J1 := hide (Lw.oneE (E := KFi) (x := (⟨nm, s⟩ : Fi)) (w0 := wz) BD.out)
          obtain ⟨u1, hu1⟩ : ∃ u1, u1 = (Value.slice (some ⟨wd.heap.size, 0, none⟩) 1 1) := ⟨_, rfl⟩
          rw [← hu1] at J1 ⊢
          clear hu1
          generalize wd.alloc (.cells (KFi.enc (⟨nm, s⟩ : Fi)).toArray KFi.e) = w126 at *
          show K1 (Act.put _ (some 32) _) _
          refine hK1.out _ _ (FR.out _ J1.out.bel) (fun hH => ?_)
          clear hK1
          change wpAnyH _ _ _ _ _ _ _ (Act.put _ (some 32) _) _
          simp only [Act.put, List.setIfInBounds_toArray, List.set_cons_zero, List.set_cons_succ]
          refine wpAnyH_ready (rs := [0]) (by kernel_rfl) (by simp) (AllReadyH.cons rfl (fun K1 hK1 => ?_) AllReadyH.nil)
          refine KFi.stepBs0 (by rfl) (by rfl) (bs0KFi _) ?_
          have J2 := hide (Lw2.second (E := KFi) J1.out)
          generalize w126.alloc (.cells #[] KFi.e) = w210 at *
          have hz2 : Hid True := trivial
          obtain ⟨v2, hv2⟩ : ∃ v2, v2 = (Value.slice (some ⟨w126.heap.size, 0, none⟩) 0 0) := ⟨_, rfl⟩
          rw [← hv2] at J2 ⊢
          clear hv2
          show K1 (Act.put _ (some 26) _) _
          refine hK1.out _ _ (FR.out _ J2.out.a.bel) (fun hH => ?_)
          clear hK1
          change wpAnyH _ _ _ _ _ _ _ (Act.put _ (some 26) _) _
          simp only [Act.put, List.setIfInBounds_toArray, List.set_cons_zero, List.set_cons_succ]
          refine wpAnyH_ready (rs := [4]) (by kernel_rfl) (by simp) (AllReadyH.cons rfl (fun K1 hK1 => ?_) AllReadyH.nil)
          refine KFi.stepAppL (by rfl) _ _ (by rfl) v2 [] (by rfl) J2.out.a.ox (.slice (some ⟨g, off, none⟩) k cc) (M.take k) (by rfl) (LX.takeL KFi (LM.out.below J2.out.a.bel) KL.out) ZA.out.1 ZA.out.2 ?_
          intro v3 w314 o3 n3
          have J3 := hide (J2.out.app o3 n3)
          clear o3 n3
          show K1 (Act.put _ (some 30) _) _
          refine hK1.out _ _ (FR.out _ J3.out.a.bel) (fun hH => ?_)
          clear hK1
          change wpAnyH _ _ _ _ _ _ _ (Act.put _ (some 30) _) _
          simp only [Act.put, List.setIfInBounds_toArray, List.set_cons_zero, List.set_cons_succ]
          refine wpAnyH_ready (rs := [7]) (by kernel_rfl) (by simp) (AllReadyH.cons rfl (fun K1 hK1 => ?_) AllReadyH.nil)
          refine KFi.stepAppL (by rfl) _ _ (by rfl) v3 _ (by rfl) J3.out.a.ox u1 [⟨nm, s⟩] (by rfl) J3.out.b.ox.read ZB.out.1 ZB.out.2 ?_
          intro v4 w417 o4 n4
          have J4 := hide (J3.out.a.app o4 n4)
          clear o4 n4
          show K1 (Act.put _ (some 33) _) _
          refine hK1.out _ _ (FR.out _ J4.out.bel) (fun hH => ?_)
          clear hK1
          change wpAnyH _ _ _ _ _ _ _ (Act.put _ (some 33) _) _
          simp only [Act.put, List.setIfInBounds_toArray, List.set_cons_zero, List.set_cons_succ]
          refine wpAnyH_ready (rs := [11]) (by kernel_rfl) (by simp) (AllReadyH.cons rfl (fun K1 hK1 => ?_) AllReadyH.nil)
          refine KFi.stepAppL (by rfl) _ _ (by rfl) v4 _ (by rfl) J4.out.ox (.slice ab (M.length - k) (cc - k)) (M.drop k) (by rfl) (HLX.out _ _ (LM.out.below J4.out.bel)) ZC.out.1 ZC.out.2 ?_
          intro v5 w5111 o5 n5
          have J5 := hide (J4.out.app o5 n5)
          clear o5 n5
          rw [List.nil_append] at J5
          show K1 (Act.put _ (some 37) _) _
          refine hK1.out _ _ (FR.out _ J5.out.bel) (fun hH => ?_)
          clear hK1
          change wpAnyH _ _ _ _ _ _ _ (Act.put _ (some 37) _) _
          simp only [Act.put, List.setIfInBounds_toArray, List.set_cons_zero, List.set_cons_succ]
          refine wpAnyH_take (i := 12) (v := v5) rfl (by kernel_rfl) (by kernel_rfl) (by kernel_rfl) (fun _ _ _ h => h) (.inl ⟨by rfl, fun W _ => by go_simp⟩) hH ?_
          change wpAnyH _ _ _ _ _ _ _ (Act.put _ (some 4) _) _
          simp only [Act.put, List.setIfInBounds_toArray, List.set_cons_zero, List.set_cons_succ]
          refine wpAnyH_done (by kernel_rfl) ?_ _
          go_wp2
          go_ret
          exact ⟨_, _, rfl, J5.out.lxk (fun g hg => FIN.out g hg), HX2.out, FINB.out _ J5.out.bel⟩
    · have h2 : ¬ (k : Int) < M.length := by omega
      have d2 : decide ((k : Int) < (M.length : Int)) = false := decide_eq_false h2
      have HX2 : Hid (Rep (M.take k ++ [⟨nm, s⟩] ++ M.drop k) (f.put (ls nm) (ls s))) := NI.out k hk HN.out (fun c => absurd c hlt)
      clear hk hlt NI HN
      go_upto_region 3 with fail
      go_quiet (fail)
      go_upto_region 5 with fail
      have J3 := hide (JW.out.next (below_drewN (Below.refl wr.heap.size wr) nq))
      have R3 : Hid ((wr.drewN nq).heap[gb]? = some (.cells #[.string nm, .string s] 69 (0, 0))) := RW.out
      clear JW RW BW cn
      generalize wr.drewN nq = wz at *
      have LM := hide (J3.out.ox.read)
      obtain ⟨ab, hab, hlx⟩ := KFi.cutB ao M.length cc k KL.out MC.out
      have HCB := hide hab
      have HLX := hide hlx
      clear hab hlx h2 d2 h0
      have FR : Hid (∀ W, Below wz.heap.size wz W → W.heap[gb]? = some (.cells #[.string nm, .string s] 69 (0, 0))) := fun W b => (b.block _ (lt_heap R3.out)).trans R3.out
      refine wp_region_held_drew (S := fun W => W.heap[gb]? = some (.cells #[.string nm, .string s] 69 (0, 0))) (by kernel_rfl) (FR.out _ (Below.refl _ _).drew) (fun hH => ?_)
      refine wpAnyH_take (i := 1) (v := .slice ao M.length cc) rfl (by kernel_rfl) (by kernel_rfl) (by kernel_rfl) (fun _ _ _ h => h) (yl_move (by rfl) _ (by rfl) _ (by rfl)) hH ?_
      change wpAnyH _ _ _ _ _ _ _ (Act.put _ (some 27) _) _
      simp only [Act.put, List.setIfInBounds_toArray, List.set_cons_zero, List.set_cons_succ]
      refine wpAnyH_take (i := 2) (v := .int .i64 (k : Int)) rfl (by kernel_rfl) (by kernel_rfl) (by kernel_rfl) (fun _ _ _ h => h) (yl_move (by rfl) _ (by rfl) _ (by rfl)) hH ?_
      change wpAnyH _ _ _ _ _ _ _ (Act.put _ (some 28) _) _
      simp only [Act.put, List.setIfInBounds_toArray, List.set_cons_zero, List.set_cons_succ]
      refine wpAnyH_take (i := 3) (v := .slice ao k cc) rfl (by kernel_rfl) (by kernel_rfl) (by kernel_rfl) (fun _ _ _ h => h) (yl_slice (by rfl) _ _ _ (by rfl) _ _ (by rfl) _ _ (by rfl) (by rfl) (fun W => KFi.cutF ao M.length cc k KL.out MC.out W)) hH ?_
      change wpAnyH _ _ _ _ _ _ _ (Act.put _ (some 29) _) _
      simp only [Act.put, List.setIfInBounds_toArray, List.set_cons_zero, List.set_cons_succ]
      refine wpAnyH_take (i := 5) (v := .agg #[.string nm, .string s]) rfl (by kernel_rfl) (by kernel_rfl) (by kernel_rfl) (fun _ _ _ h => h) (yl_load (by rfl) _ (by rfl) _ _ (by rfl) (fun W hS => ld_row AFi rfl hS)) hH ?_
      change wpAnyH _ _ _ _ _ _ _ (Act.put _ (some 31) _) _
      simp only [Act.put, List.setIfInBounds_toArray, List.set_cons_zero, List.set_cons_succ]
      refine wpAnyH_take (i := 8) (v := .slice ao M.length cc) rfl (by kernel_rfl) (by kernel_rfl) (by kernel_rfl) (fun _ _ _ h => h) (yl_move (by rfl) _ (by rfl) _ (by rfl)) hH ?_
      change wpAnyH _ _ _ _ _ _ _ (Act.put _ (some 34) _) _
      simp only [Act.put, List.setIfInBounds_toArray, List.set_cons_zero, List.set_cons_succ]
      refine wpAnyH_take (i := 9) (v := .int .i64 (k : Int)) rfl (by kernel_rfl) (by kernel_rfl) (by kernel_rfl) (fun _ _ _ h => h) (yl_move (by rfl) _ (by rfl) _ (by rfl)) hH ?_
      change wpAnyH _ _ _ _ _ _ _ (Act.put _ (some 35) _) _
      simp only [Act.put, List.setIfInBounds_toArray, List.set_cons_zero, List.set_cons_succ]
      refine wpAnyH_take (i := 10) (v := .slice ab (M.length - k) (cc - k)) rfl (by kernel_rfl) (by kernel_rfl) (by kernel_rfl) (fun _ _ _ h => h) (yl_slice (by rfl) _ _ _ (by rfl) _ _ (by rfl) _ _ (by rfl) (by rfl) (fun W => HCB.out W)) hH ?_
      change wpAnyH _ _ _ _ _ _ _ (Act.put _ (some 36) _) _
      simp only [Act.put, List.setIfInBounds_toArray, List.set_cons_zero, List.set_cons_succ]
      have BD := hide (Below.refl wz.heap.size wz).drew
      have SZ : Hid (wz.drew.heap.size = wz.heap.size) := rfl
      generalize wz.drew = wd at *
      have ZA : Hid ((([] : List Fi).length + (M.take k).length) * KFi.b ≤ 140737488355328 ∧ ([] : List Fi).length + (M.take k).length ≤ maxLen) := by have := HM.out; have h3 := KL.out; rw [List.length_take]; exact ⟨show (0 + min k M.length) * 32 ≤ _ by omega, show 0 + min k M.length ≤ _ by unfold maxLen; omega⟩
      have ZB : Hid (((([] : List Fi) ++ M.take k).length + [(⟨nm, s⟩ : Fi)].length) * KFi.b ≤ 140737488355328 ∧ (([] : List Fi) ++ M.take k).length + [(⟨nm, s⟩ : Fi)].length ≤ maxLen) := by have := HM.out; have h3 := KL.out; rw [List.nil_append, List.length_take, List.length_singleton]; exact ⟨show (min k M.length + 1) * 32 ≤ _ by omega, by unfold maxLen; omega⟩
      have ZC : Hid (((([] : List Fi) ++ M.take k ++ [(⟨nm, s⟩ : Fi)]).length + (M.drop k).length) * KFi.b ≤ 140737488355328 ∧ (([] : List Fi) ++ M.take k ++ [(⟨nm, s⟩ : Fi)]).length + (M.drop k).length ≤ maxLen) := by have := HM.out; have h3 := KL.out; rw [List.nil_append, List.length_append, List.length_take, List.length_singleton, List.length_drop]; exact ⟨show (min k M.length + 1 + (M.length - k)) * 32 ≤ _ by omega, by unfold maxLen; omega⟩
      have FIN : Hid (∀ g, K g → g < wz.heap.size) := fun g hg => by have h1 := HK.out g hg; have h2 := HB.out.size; rw [hgb] at h2; have h3 := J3.out.bel.size; omega
      have FINB : Hid (∀ W, Below wz.heap.size wz W → Below w.heap.size w W) := fun W b => by have h1 := HB.out; rw [← hgb] at h1; exact below_next (below_next h1 J3.out.bel) b
      refine wpAnyH_ready (rs := [0, 6]) (by kernel_rfl) (by simp) (AllReadyH.cons rfl (fun K1 hK1 => ?_) (AllReadyH.cons rfl (fun K1 hK1 => ?_) AllReadyH.nil))
      · refine KFi.stepBs0 (by rfl) (by rfl) (bs0KFi _) ?_
        have J1 := hide (Lw.empty (E := KFi) (w0 := wz) BD.out)
        generalize wd.alloc (.cells #[] KFi.e) = w120 at *
        have hz1 : Hid True := trivial
        obtain ⟨v1, hv1⟩ : ∃ v1, v1 = (Value.slice (some ⟨wd.heap.size, 0, none⟩) 0 0) := ⟨_, rfl⟩
        rw [← hv1] at J1 ⊢
        clear hv1
        show K1 (Act.put _ (some 26) _) _
        refine hK1.out _ _ (FR.out _ J1.out.bel) (fun hH => ?_)
        clear hK1
        change wpAnyH _ _ _ _ _ _ _ (Act.put _ (some 26) _) _
        simp only [Act.put, List.setIfInBounds_toArray, List.set_cons_zero, List.set_cons_succ]
        refine wpAnyH_ready (rs := [4, 6]) (by kernel_rfl) (by simp) (AllReadyH.cons rfl (fun K1 hK1 => ?_) (AllReadyH.cons rfl (fun K1 hK1 => ?_) AllReadyH.nil))
        · refine KFi.stepAppL (by rfl) _ _ (by rfl) v1 [] (by rfl) J1.out.ox (.slice ao k cc) (M.take k) (by rfl) (LX.takeL KFi (LM.out.below J1.out.bel) KL.out) ZA.out.1 ZA.out.2 ?_
          intro v2 w224 o2 n2
          have J2 := hide (J1.out.app o2 n2)
          clear o2 n2
          show K1 (Act.put _ (some 30) _) _
          refine hK1.out _ _ (FR.out _ J2.out.bel) (fun hH => ?_)
          clear hK1
          change wpAnyH _ _ _ _ _ _ _ (Act.put _ (some 30) _) _
          simp only [Act.put, List.setIfInBounds_toArray, List.set_cons_zero, List.set_cons_succ]
          refine wpAnyH_ready (rs := [6]) (by kernel_rfl) (by simp) (AllReadyH.cons rfl (fun K1 hK1 => ?_) AllReadyH.nil)
          refine KFi.stepBs1 (by rfl) _ (by rfl) (⟨nm, s⟩ : Fi) (by rfl) ?_
          have J3 := hide (Lw2.first (x := (⟨nm, s⟩ : Fi)) J2.out)
          obtain ⟨u3, hu3⟩ : ∃ u3, u3 = (Value.slice (some ⟨w224.heap.size, 0, none⟩) 1 1) := ⟨_, rfl⟩
          rw [← hu3] at J3 ⊢
          clear hu3
          generalize w224.alloc (.cells (KFi.enc (⟨nm, s⟩ : Fi)).toArray KFi.e) = w316 at *
          show K1 (Act.put _ (some 32) _) _
          refine hK1.out _ _ (FR.out _ J3.out.a.bel) (fun hH => ?_)
          clear hK1
          change wpAnyH _ _ _ _ _ _ _ (Act.put _ (some 32) _) _
          simp only [Act.put, List.setIfInBounds_toArray, List.set_cons_zero, List.set_cons_succ]
          refine wpAnyH_ready (rs := [7]) (by kernel_rfl) (by simp) (AllReadyH.cons rfl (fun K1 hK1 => ?_) AllReadyH.nil)
          refine KFi.stepAppL (by rfl) _ _ (by rfl) v2 _ (by rfl) J3.out.a.ox u3 [⟨nm, s⟩] (by rfl) J3.out.b.ox.read ZB.out.1 ZB.out.2 ?_
          intro v4 w417 o4 n4
          have J4 := hide (J3.out.a.app o4 n4)
          clear o4 n4
          show K1 (Act.put _ (some 33) _) _
          refine hK1.out _ _ (FR.out _ J4.out.bel) (fun hH => ?_)
          clear hK1
          change wpAnyH _ _ _ _ _ _ _ (Act.put _ (some 33) _) _
          simp only [Act.put, List.setIfInBounds_toArray, List.set_cons_zero, List.set_cons_succ]
          refine wpAnyH_ready (rs := [11]) (by kernel_rfl) (by simp) (AllReadyH.cons rfl (fun K1 hK1 => ?_) AllReadyH.nil)
          refine KFi.stepAppL (by rfl) _ _ (by rfl) v4 _ (by rfl) J4.out.ox (.slice ab (M.length - k) (cc - k)) (M.drop k) (by rfl) (HLX.out _ _ (LM.out.below J4.out.bel)) ZC.out.1 ZC.out.2 ?_
          intro v5 w5111 o5 n5
          have J5 := hide (J4.out.app o5 n5)
          clear o5 n5
          rw [List.nil_append] at J5
          show K1 (Act.put _ (some 37) _) _
          refine hK1.out _ _ (FR.out _ J5.out.bel) (fun hH => ?_)
          clear hK1
          change wpAnyH _ _ _ _ _ _ _ (Act.put _ (some 37) _) _
          simp only [Act.put, List.setIfInBounds_toArray, List.set_cons_zero, List.set_cons_succ]
          refine wpAnyH_take (i := 12) (v := v5) rfl (by kernel_rfl) (by kernel_rfl) (by kernel_rfl) (fun _ _ _ h => h) (.inl ⟨by rfl, fun W _ => by go_simp⟩) hH ?_
          change wpAnyH _ _ _ _ _ _ _ (Act.put _ (some 4) _) _
          simp only [Act.put, List.setIfInBounds_toArray, List.set_cons_zero, List.set_cons_succ]
          refine wpAnyH_done (by kernel_rfl) ?_ _
          go_wp2
          go_ret
          exact ⟨_, _, rfl, J5.out.lxk (fun g hg => FIN.out g hg), HX2.out, FINB.out _ J5.out.bel⟩
        · refine KFi.stepBs1 (by rfl) _ (by rfl) (⟨nm, s⟩ : Fi) (by rfl) ?_
          have J2 := hide (Lw2.first (x := (⟨nm, s⟩ : Fi)) J1.out)
          obtain ⟨u2, hu2⟩ : ∃ u2, u2 = (Value.slice (some ⟨w120.heap.size, 0, none⟩) 1 1) := ⟨_, rfl⟩
          rw [← hu2] at J2 ⊢
          clear hu2
          generalize w120.alloc (.cells (KFi.enc (⟨nm, s⟩ : Fi)).toArray KFi.e) = w226 at *
          show K1 (Act.put _ (some 32) _) _
          refine hK1.out _ _ (FR.out _ J2.out.a.bel) (fun hH => ?_)
          clear hK1
          change wpAnyH _ _ _ _ _ _ _ (Act.put _ (some 32) _) _
          simp only [Act.put, List.setIfInBounds_toArray, List.set_cons_zero, List.set_cons_succ]
          refine wpAnyH_ready (rs := [4]) (by kernel_rfl) (by simp) (AllReadyH.cons rfl (fun K1 hK1 => ?_) AllReadyH.nil)
          refine KFi.stepAppL (by rfl) _ _ (by rfl) v1 [] (by rfl) J2.out.a.ox (.slice ao k cc) (M.take k) (by rfl) (LX.takeL KFi (LM.out.below J2.out.a.bel) KL.out) ZA.out.1 ZA.out.2 ?_
          intro v3 w314 o3 n3
          have J3 := hide (J2.out.app o3 n3)
          clear o3 n3
          show K1 (Act.put _ (some 30) _) _
          refine hK1.out _ _ (FR.out _ J3.out.a.bel) (fun hH => ?_)
          clear hK1
          change wpAnyH _ _ _ _ _ _ _ (Act.put _ (some 30) _) _
          simp only [Act.put, List.setIfInBounds_toArray, List.set_cons_zero, List.set_cons_succ]
          refine wpAnyH_ready (rs := [7]) (by kernel_rfl) (by simp) (AllReadyH.cons rfl (fun K1 hK1 => ?_) AllReadyH.nil)
          refine KFi.stepAppL (by rfl) _ _ (by rfl) v3 _ (by rfl) J3.out.a.ox u2 [⟨nm, s⟩] (by rfl) J3.out.b.ox.read ZB.out.1 ZB.out.2 ?_
          intro v4 w417 o4 n4
          have J4 := hide (J3.out.a.app o4 n4)
          clear o4 n4
          show K1 (Act.put _ (some 33) _) _
          refine hK1.out _ _ (FR.out _ J4.out.bel) (fun hH => ?_)
          clear hK1
          change wpAnyH _ _ _ _ _ _ _ (Act.put _ (some 33) _) _
          simp only [Act.put, List.setIfInBounds_toArray, List.set_cons_zero, List.set_cons_succ]
          refine wpAnyH_ready (rs := [11]) (by kernel_rfl) (by simp) (AllReadyH.cons rfl (fun K1 hK1 => ?_) AllReadyH.nil)
          refine KFi.stepAppL (by rfl) _ _ (by rfl) v4 _ (by rfl) J4.out.ox (.slice ab (M.length - k) (cc - k)) (M.drop k) (by rfl) (HLX.out _ _ (LM.out.below J4.out.bel)) ZC.out.1 ZC.out.2 ?_
          intro v5 w5111 o5 n5
          have J5 := hide (J4.out.app o5 n5)
          clear o5 n5
          rw [List.nil_append] at J5
          show K1 (Act.put _ (some 37) _) _
          refine hK1.out _ _ (FR.out _ J5.out.bel) (fun hH => ?_)
          clear hK1
          change wpAnyH _ _ _ _ _ _ _ (Act.put _ (some 37) _) _
          simp only [Act.put, List.setIfInBounds_toArray, List.set_cons_zero, List.set_cons_succ]
          refine wpAnyH_take (i := 12) (v := v5) rfl (by kernel_rfl) (by kernel_rfl) (by kernel_rfl) (fun _ _ _ h => h) (.inl ⟨by rfl, fun W _ => by go_simp⟩) hH ?_
          change wpAnyH _ _ _ _ _ _ _ (Act.put _ (some 4) _) _
          simp only [Act.put, List.setIfInBounds_toArray, List.set_cons_zero, List.set_cons_succ]
          refine wpAnyH_done (by kernel_rfl) ?_ _
          go_wp2
          go_ret
          exact ⟨_, _, rfl, J5.out.lxk (fun g hg => FIN.out g hg), HX2.out, FINB.out _ J5.out.bel⟩
      · refine KFi.stepBs1 (by rfl) _ (by rfl) (⟨nm, s⟩ : Fi) (by rfl) ?_
        have J1 := hide (Lw.oneE (E := KFi) (x := (⟨nm, s⟩ : Fi)) (w0 := wz) BD.out)
        obtain ⟨u1, hu1⟩ : ∃ u1, u1 = (Value.slice (some ⟨wd.heap.size, 0, none⟩) 1 1) := ⟨_, rfl⟩
        rw [← hu1] at J1 ⊢
        clear hu1
        generalize wd.alloc (.cells (KFi.enc (⟨nm, s⟩ : Fi)).toArray KFi.e) = w126 at *
        show K1 (Act.put _ (some 32) _) _
        refine hK1.out _ _ (FR.out _ J1.out.bel) (fun hH => ?_)
        clear hK1
        change wpAnyH _ _ _ _ _ _ _ (Act.put _ (some 32) _) _
        simp only [Act.put, List.setIfInBounds_toArray, List.set_cons_zero, List.set_cons_succ]
        refine wpAnyH_ready (rs := [0]) (by kernel_rfl) (by simp) (AllReadyH.cons rfl (fun K1 hK1 => ?_) AllReadyH.nil)
        refine KFi.stepBs0 (by rfl) (by rfl) (bs0KFi _) ?_
        have J2 := hide (Lw2.second (E := KFi) J1.out)
        generalize w126.alloc (.cells #[] KFi.e) = w210 at *
        have hz2 : Hid True := trivial
        obtain ⟨v2, hv2⟩ : ∃ v2, v2 = (Value.slice (some ⟨w126.heap.size, 0, none⟩) 0 0) := ⟨_, rfl⟩
        rw [← hv2] at J2 ⊢
        clear hv2
        show K1 (Act.put _ (some 26) _) _
        refine hK1.out _ _ (FR.out _ J2.out.a.bel) (fun hH => ?_)
        clear hK1
        change wpAnyH _ _ _ _ _ _ _ (Act.put _ (some 26) _) _
        simp only [Act.put, List.setIfInBounds_toArray, List.set_cons_zero, List.set_cons_succ]
        refine wpAnyH_ready (rs := [4]) (by kernel_rfl) (by simp) (AllReadyH.cons rfl (fun K1 hK1 => ?_) AllReadyH.nil)
        refine KFi.stepAppL (by rfl) _ _ (by rfl) v2 [] (by rfl) J2.out.a.ox (.slice ao k cc) (M.take k) (by rfl) (LX.takeL KFi (LM.out.below J2.out.a.bel) KL.out) ZA.out.1 ZA.out.2 ?_
        intro v3 w314 o3 n3
        have J3 := hide (J2.out.app o3 n3)
        clear o3 n3
        show K1 (Act.put _ (some 30) _) _
        refine hK1.out _ _ (FR.out _ J3.out.a.bel) (fun hH => ?_)
        clear hK1
        change wpAnyH _ _ _ _ _ _ _ (Act.put _ (some 30) _) _
        simp only [Act.put, List.setIfInBounds_toArray, List.set_cons_zero, List.set_cons_succ]
        refine wpAnyH_ready (rs := [7]) (by kernel_rfl) (by simp) (AllReadyH.cons rfl (fun K1 hK1 => ?_) AllReadyH.nil)
        refine KFi.stepAppL (by rfl) _ _ (by rfl) v3 _ (by rfl) J3.out.a.ox u1 [⟨nm, s⟩] (by rfl) J3.out.b.ox.read ZB.out.1 ZB.out.2 ?_
        intro v4 w417 o4 n4
        have J4 := hide (J3.out.a.app o4 n4)
        clear o4 n4
        show K1 (Act.put _ (some 33) _) _
        refine hK1.out _ _ (FR.out _ J4.out.bel) (fun hH => ?_)
        clear hK1
        change wpAnyH _ _ _ _ _ _ _ (Act.put _ (some 33) _) _
        simp only [Act.put, List.setIfInBounds_toArray, List.set_cons_zero, List.set_cons_succ]
        refine wpAnyH_ready (rs := [11]) (by kernel_rfl) (by simp) (AllReadyH.cons rfl (fun K1 hK1 => ?_) AllReadyH.nil)
        refine KFi.stepAppL (by rfl) _ _ (by rfl) v4 _ (by rfl) J4.out.ox (.slice ab (M.length - k) (cc - k)) (M.drop k) (by rfl) (HLX.out _ _ (LM.out.below J4.out.bel)) ZC.out.1 ZC.out.2 ?_
        intro v5 w5111 o5 n5
        have J5 := hide (J4.out.app o5 n5)
        clear o5 n5
        rw [List.nil_append] at J5
        show K1 (Act.put _ (some 37) _) _
        refine hK1.out _ _ (FR.out _ J5.out.bel) (fun hH => ?_)
        clear hK1
        change wpAnyH _ _ _ _ _ _ _ (Act.put _ (some 37) _) _
        simp only [Act.put, List.setIfInBounds_toArray, List.set_cons_zero, List.set_cons_succ]
        refine wpAnyH_take (i := 12) (v := v5) rfl (by kernel_rfl) (by kernel_rfl) (by kernel_rfl) (fun _ _ _ h => h) (.inl ⟨by rfl, fun W _ => by go_simp⟩) hH ?_
        change wpAnyH _ _ _ _ _ _ _ (Act.put _ (some 4) _) _
        simp only [Act.put, List.setIfInBounds_toArray, List.set_cons_zero, List.set_cons_succ]
        refine wpAnyH_done (by kernel_rfl) ?_ _
        go_wp2
        go_ret
        exact ⟨_, _, rfl, J5.out.lxk (fun g hg => FIN.out g hg), HX2.out, FINB.out _ J5.out.bel⟩
end
end Go.Proofs.Ythnfpdmhjennlaa
