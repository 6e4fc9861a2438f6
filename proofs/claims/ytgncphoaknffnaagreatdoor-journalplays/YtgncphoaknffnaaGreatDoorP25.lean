/- Journals: what the law does: a journal is renewed. -/
import Derived.Test.YtgncphoaknffnaaGreatDoorP24
namespace Go.Proofs.YtgncphoaknffnaaGreatDoor
open Go.RowKit
open Go.Deep
open Go.Lib
set_option linter.unusedVariables false
theorem sl1Z (g n c : Nat) (h2 : n ≤ c) (w : World) : (Instr.sliceAt 30 (.slice (some ⟨g, 0, none⟩) n c) (some (.int .i64 (n : Int))) none none).run Tryz.prog w = .ok (.slice (if c = n then some ⟨g, 0, none⟩ else some ⟨g, n, none⟩) 0 (c - n)) w := by
  have hi : (sizeOf 9).run Tryz.prog w = .ok 1 w := by kernel_rfl
  by_cases e2 : c = n
  · simp [Instr.sliceAt, Instr.slice, run_underlying Tryz.underlying30, Instr.sliceBounds, Instr.sliceBound, asIntOf, e2, Result.andThen, hi, addr_add]
  · simp [Instr.sliceAt, Instr.slice, run_underlying Tryz.underlying30, Instr.sliceBounds, Instr.sliceBound, asIntOf, e2, Result.andThen, hi, addr_add]
section
set_option maxRecDepth 10000
set_option maxHeartbeats 2000000
variable {K : Nat → Prop} {B w : World} {gj gd : Nat} {x : StD} {T : Nat → Prop} {v : Value}
theorem act_renew_zero_ok {ep torn c : Nat} {L : List ByteArray} {u : Value} {kind n : Int} {s : ByteArray} (h : JB K B w gj gd ⟨logN, ep, L, torn, false⟩ x T v) (hu : MU w T gj v u L) (hd : Ds x ep L c) (hc : c < 60) (hK : KB K B) (hs : s.size ≤ 70000) (hk1 : wrap64 (kind.tmod 6 + 6) = kind.tmod 6 + 6) (hk : (kind.tmod 6 + 6).tmod 6 = 3) (hl : s.size ≤ 65536) (hnm : n = 0) (hpos : 0 < L.length) {gq c0 : Nat} (hrow : u = .slice (some ⟨gq, 0, none⟩) L.length c0) (hcap : L.length ≤ c0) : Calls Tryz.prog 8 #[.pointer (some ⟨gj, 0, none⟩), .pointer (some ⟨gd, 0, none⟩), .agg #[u, .int .u64 (ep : Int)], .agg #[.int .i64 kind, .int .i64 n, .string s]] w fun e w' => AP K B gd c e w' := by
  subst hnm
  subst hrow
  obtain ⟨R, hR⟩ : ∃ R : List ByteArray, R = [] := ⟨_, rfl⟩
  have hRm : R.length = 0 := by rw [hR]; rfl
  have b0 := acW_bel w (.slice (some ⟨gq, 0, none⟩) L.length c0) ep kind 0 s
  have AC := hide (acW_ac w (.slice (some ⟨gq, 0, none⟩) L.length c0) ep kind 0 s)
  have H0 := hide (h.next b0)
  have H1 := hide (h.next b0).here
  have HJ := hide (js_not h)
  have HM := hide (hu.next b0)
  have HUn : Hid (∀ g, w.heap.size ≤ g → Value.ownBlock (.slice (some ⟨gq, 0, none⟩) L.length c0) ≠ some g) := fun g hg e => by
    have := (hu.far g e).1
    omega
  have HBs : Hid (B.heap.size ≤ w.heap.size + 1 + 1) := by
    have := h.bel.size
    show _ ≤ _
    omega
  have KB1 : Hid (KB (js T gj v) (acW w (.slice (some ⟨gq, 0, none⟩) L.length c0) ep kind 0 s)) := by
    have kg := hK.at_ (h.next b0).bel
    refine ⟨kg, fun c => ?_⟩
    have up : K 0 ∨ B.heap.size ≤ 0 := by
      rcases c with c | c | c
      · exact h.far _ c
      · exact c ▸ h.jfar
      · exact (h.vfar _ c).1
    rcases up with c | c
    · exact hK.2 c
    · have := hK.1.lt
      omega
  have hRs : ∀ t ∈ R, t.size ≤ 65536 := fun t ht => hd.short t (by rw [hR] at ht; cases ht)
  have hRl : (R).length ≤ c := by have := hd.many; have := hRm; omega
  have fb := flen_bound (R ++ [s]) (fun t ht => by
    rcases List.mem_append.1 ht with ht | ht
    · exact hRs t ht
    · rw [List.mem_singleton.1 ht]; omega)
  have HLn := hide (show (R).length ≤ 60 by omega)
  have HA := hide fun W (hk : KB (js T gj v) W) (j : JB (js T gj v) W W gj gd ⟨logN, ep, L, torn, false⟩ x T v) u' (l : LX KS W u' (R ++ [s])) (hf : ∀ g, u'.ownBlock = some g → ¬ js T gj v g) => renew_ok j hk rfl u' (R ++ [s]) l hf (by have := hd.epo; show ep + 1 < _; omega) (by rw [List.length_append] at fb; simp at fb; omega) (fun t ht => by
    rcases List.mem_append.1 ht with ht | ht
    · exact hRs t ht
    · rw [List.mem_singleton.1 ht]; omega) (hd.wa hc _ (by rw [txtJ_size, fileL_len]; rw [List.length_append] at fb; simp at fb; omega))
  have DS := hide (hd.renew hc (R ++ [s]) (fun t ht => by
    rcases List.mem_append.1 ht with ht | ht
    · exact hRs t ht
    · rw [List.mem_singleton.1 ht]; omega) (by rw [List.length_append]; simp; omega))
  have hX0 : (xsW x logN (txt (fileL (ep + 1) (dl (R ++ [s])))) 5).loose.length = 0 := rfl
  generalize xsW x logN (txt (fileL (ep + 1) (dl (R ++ [s])))) 5 = X at *
  have HLo : Hid (∀ W T', DK W gd X T' → Calls Tryz.prog 13 #[.pointer (some ⟨gd, 0, none⟩)] W fun e w' => e = .returned (.int .i64 0) ∧ w' = W) := fun W T' d => by
    have := loose_any gd X T' W d
    rw [show X.loose.length = 0 from hX0] at this
    exact this
  have HRd : Hid (∀ W T', DK W gd X T' → Calls Tryz.prog 23 #[.pointer (some ⟨gd, 0, none⟩), .string ⟨#[108, 111, 103, 46, 116, 109, 112]⟩] W fun e w' => e = .returned (.tuple #[.string ⟨#[]⟩, .int .i64 2]) ∧ Below W.heap.size W w') := fun W T' d => by
    have := read_any gd X T' (asideN logN) W d (by decide)
    rw [DS.out.fndA] at this
    exact this
  have l1 : ¬ (65536 : Int) < s.size := by omega
  have e9 : IntKind.u64.wrap ((ep : Int) + 1) = (ep : Int) + 1 := wrapu _ (by have := hd.epo; omega) (by have := hd.epo; omega)
  have a1 := AC.out.a1
  have m0 := AC.out.m0
  have n1 : (0 : Int) < (L.length : Int) := by omega
  have e1 : IntKind.i64.wrap (L.length : Int) = (L.length : Int) := wrapI _ (by omega) (by have := hd.many; omega)
  have s1 := fun W => sl1Z gq L.length c0 hcap W
  have e0 : ∃ g' k', (if c0 = L.length then some ⟨gq, 0, none⟩ else some ⟨gq, L.length, none⟩ : Option Addr) = some ⟨g', k', none⟩ := by split <;> exact ⟨_, _, rfl⟩
  obtain ⟨ao1, hao⟩ : ∃ ao1 : Option Addr, ao1 = (if c0 = L.length then some ⟨gq, 0, none⟩ else some ⟨gq, L.length, none⟩) := ⟨_, rfl⟩
  rw [← hao] at s1
  have UF : Hid (LX KS (acW w (.slice (some ⟨gq, 0, none⟩) L.length c0) ep kind 0 s) (.slice ao1 0 (c0 - L.length)) R) := by
    rw [hR]
    exact ⟨_, _, rfl, Nat.zero_le _, fun i hi => by simp at hi⟩
  clear hR hRm hao e0
  have HBs2 := hide h.bel.size
  clear hl fb hRs hRl
  unfold acW at *
  clear h hd hc b0 hK
  go_enter Tryz.func8, Tryz.ntmps8
  go_upto_region 8 with fail
  generalize ((w.alloc (.cells #[.slice (some ⟨gq, 0, none⟩) L.length c0, .int .u64 (ep : Int)] 33)).alloc (.cells #[.int .i64 kind, .int .i64 0, .string s] 35)).alloc (.cells #[.slice none 0 0, .int .u64 0] 33) = W0 at *
  clear hk1 hk a1 m0
  have HSS : Hid (∀ W, Below W0.heap.size W0 W → W.cell? ⟨w.heap.size + 1, 2, none⟩ = some (.string s)) := fun W b => (AC.out.next b).a2
  go_cut [11] from 57 to 63 (fun s11 wx => ∃ u', s11 = u' ∧ Hid (OX KS wx u' (R ++ [s]) ∧ Below W0.heap.size W0 wx ∧ ∀ g, u'.ownBlock = some g → W0.heap.size ≤ g))
  case first =>
    refine wp_region_held_drew (S := fun W => W.cell? ⟨w.heap.size + 1, 2, none⟩ = some (.string s)) (by kernel_rfl) (HSS.out _ (Below.refl _ _).drew) (fun hH => ?_)
    refine wpAnyH_take (i := 1) (v := .slice ao1 0 (c0 - L.length)) rfl (by kernel_rfl) (by kernel_rfl) (by kernel_rfl) (fun _ _ _ h => h) (yl_move (by rfl) _ (by rfl) _ (by rfl)) hH ?_
    change wpAnyH _ _ _ _ _ _ _ (Act.put _ (some 58) _) _
    simp only [Act.put, List.setIfInBounds_toArray, List.set_cons_zero, List.set_cons_succ]
    refine wpAnyH_take (i := 3) (v := .pointer (some ⟨w.heap.size + 1, 2, none⟩)) rfl (by kernel_rfl) (by kernel_rfl) (by kernel_rfl) (fun _ _ _ h => h) (.inl ⟨by rfl, fun W _ => by go_simp⟩) hH ?_
    change wpAnyH _ _ _ _ _ _ _ (Act.put _ (some 60) _) _
    simp only [Act.put, List.setIfInBounds_toArray, List.set_cons_zero, List.set_cons_succ]
    refine wpAnyH_take (i := 4) (v := .string s) rfl (by kernel_rfl) (by kernel_rfl) (by kernel_rfl) (fun _ _ _ h => h) (.inl ⟨by rfl, fun W hS => by have c4 := hS; go_simp⟩) hH ?_
    change wpAnyH _ _ _ _ _ _ _ (Act.put _ (some 61) _) _
    simp only [Act.put, List.setIfInBounds_toArray, List.set_cons_zero, List.set_cons_succ]
    have BD := hide (Below.refl W0.heap.size W0).drew
    generalize W0.drew = wd at *
    refine wpAnyH_ready (rs := [0, 5]) (by kernel_rfl) (by simp) (AllReadyH.cons rfl (fun K1 hK1 => ?_) (AllReadyH.cons rfl (fun K1 hK1 => ?_) AllReadyH.nil))
    · have h5 := bs0T wd
      go_simp
      have O0 := hide (ox_none wd)
      have C1 := hide (BD.out.alloc BD.out.size (.cells #[] 9))
      refine hK1.out _ _ (HSS.out _ C1.out) (fun hH => ?_)
      clear hK1 h5
      have g0 := hide (show W0.heap.size ≤ wd.heap.size from BD.out.size)
      have hz1 := hide (show (wd.alloc (.cells #[] 9)).heap.size = wd.heap.size + 1 by simp)
      generalize wd.alloc (.cells #[] 9) = w0_1 at *
      refine wpAnyH_ready (rs := [2, 5]) (by kernel_rfl) (by simp) (AllReadyH.cons rfl (fun K1 hK1 => ?_) (AllReadyH.cons rfl (fun K1 hK1 => ?_) AllReadyH.nil))
      · refine stepAppS (by rfl) _ _ (by rfl) (.slice (some ⟨wd.heap.size, 0, none⟩) 0 0) [] (by rfl) O0.out (.slice ao1 0 (c0 - L.length)) R (by rfl) (UF.out.below C1.out) (fun _ _ _ => rfl) (by have := HLn.out; simp; omega) (by have := HLn.out; unfold maxLen; simp; omega) ?_
        intro v2 w2_2 o2 on2
        show K1 (Act.put _ (some 59) _) _
        have OF2 := hide (onto_far on2 (w := W0) (fun g hg => by cases hg; exact g0.out) C1.out)
        have O2 := hide o2
        rw [List.nil_append] at O2
        clear o2 on2
        refine hK1.out _ _ (HSS.out _ OF2.out.2) (fun hH => ?_)
        clear hK1
        try simp only [Act.put, List.setIfInBounds_toArray, List.set_cons_zero, List.set_cons_succ]
        refine wpAnyH_ready (rs := [5]) (by kernel_rfl) (by simp) (AllReadyH.cons rfl (fun K1 hK1 => ?_) AllReadyH.nil)
        have h5 := bsS w2_2 s
        go_simp
        have Y3 := hide (lx_one w2_2 s)
        have C3 := hide (OF2.out.2.alloc OF2.out.2.size (.cells #[.string s] 9))
        refine hK1.out _ _ (HSS.out _ C3.out) (fun hH => ?_)
        clear hK1 h5
        have O3 := hide (O2.out.below ((Below.refl _ _).alloc (Nat.le_refl _) (.cells #[.string s] 9)))
        have hz3 := hide (show (w2_2.alloc (.cells #[.string s] 9)).heap.size = w2_2.heap.size + 1 by simp)
        generalize w2_2.alloc (.cells #[.string s] 9) = w5_3 at *
        refine wpAnyH_ready (rs := [6]) (by kernel_rfl) (by simp) (AllReadyH.cons rfl (fun K1 hK1 => ?_) AllReadyH.nil)
        refine stepAppS (by rfl) _ _ (by rfl) v2 R (by rfl) O3.out (.slice (some ⟨w2_2.heap.size, 0, none⟩) 1 1) [s] (by rfl) Y3.out (fun _ _ e => by cases e) (by have := HLn.out; simp; omega) (by have := HLn.out; unfold maxLen; simp; omega) ?_
        intro v4 w6_4 o4 on4
        show K1 (Act.put _ (some 63) _) _
        have OF4 := hide (onto_far on4 (w := W0) OF2.out.1 C3.out)
        have O4 := hide o4
        clear o4 on4
        refine hK1.out _ _ (HSS.out _ OF4.out.2) (fun hH => ?_)
        clear hK1
        try simp only [Act.put, List.setIfInBounds_toArray, List.set_cons_zero, List.set_cons_succ]
        obtain ⟨ao9, c9, e9⟩ := O4.out.form
        rw [List.length_append, List.length_singleton] at e9
        subst e9
        refine wpAnyH_take (i := 7) (v := .slice ao9 (R.length + 1) c9) rfl (by kernel_rfl) (by kernel_rfl) (by kernel_rfl) (fun _ _ _ h => h) (.inl ⟨by rfl, fun W _ => by go_simp⟩) hH ?_
        change wpAnyH _ _ _ _ _ _ _ (Act.put _ (some 11) _) _
        simp only [Act.put, List.setIfInBounds_toArray, List.set_cons_zero, List.set_cons_succ]
        refine wpAnyH_done (by kernel_rfl) ?_ _
        go_wp2_with fail
        go_meet
        exact ⟨_, rfl, O4.out, OF4.out.2, OF4.out.1⟩
      · have h5 := bsS w0_1 s
        go_simp
        have Y2 := hide (lx_one w0_1 s)
        have C2 := hide (C1.out.alloc C1.out.size (.cells #[.string s] 9))
        refine hK1.out _ _ (HSS.out _ C2.out) (fun hH => ?_)
        clear hK1 h5
        have O2 := hide (O0.out.below ((Below.refl _ _).alloc (Nat.le_refl _) (.cells #[.string s] 9)))
        have hz2 := hide (show (w0_1.alloc (.cells #[.string s] 9)).heap.size = w0_1.heap.size + 1 by simp)
        generalize w0_1.alloc (.cells #[.string s] 9) = w5_2 at *
        refine wpAnyH_ready (rs := [2]) (by kernel_rfl) (by simp) (AllReadyH.cons rfl (fun K1 hK1 => ?_) AllReadyH.nil)
        refine stepAppS (by rfl) _ _ (by rfl) (.slice (some ⟨wd.heap.size, 0, none⟩) 0 0) [] (by rfl) O2.out (.slice ao1 0 (c0 - L.length)) R (by rfl) (UF.out.below C2.out) (fun _ _ _ => rfl) (by have := HLn.out; simp; omega) (by have := HLn.out; unfold maxLen; simp; omega) ?_
        intro v3 w2_3 o3 on3
        show K1 (Act.put _ (some 59) _) _
        have OF3 := hide (onto_far on3 (w := W0) (fun g hg => by cases hg; exact g0.out) C2.out)
        have Y3 := hide (Y2.out.onto on3 (fun g hg e => by have e1 : w0_1.heap.size = g := Option.some.inj hg; have e2 : wd.heap.size = g := Option.some.inj e; have q1 := hz1.out; have q2 := hz2.out; omega))
        have O3 := hide o3
        rw [List.nil_append] at O3
        clear o3 on3
        refine hK1.out _ _ (HSS.out _ OF3.out.2) (fun hH => ?_)
        clear hK1
        try simp only [Act.put, List.setIfInBounds_toArray, List.set_cons_zero, List.set_cons_succ]
        refine wpAnyH_ready (rs := [6]) (by kernel_rfl) (by simp) (AllReadyH.cons rfl (fun K1 hK1 => ?_) AllReadyH.nil)
        refine stepAppS (by rfl) _ _ (by rfl) v3 R (by rfl) O3.out (.slice (some ⟨w0_1.heap.size, 0, none⟩) 1 1) [s] (by rfl) Y3.out (fun _ _ e => by cases e) (by have := HLn.out; simp; omega) (by have := HLn.out; unfold maxLen; simp; omega) ?_
        intro v4 w6_4 o4 on4
        show K1 (Act.put _ (some 63) _) _
        have OF4 := hide (onto_far on4 (w := W0) OF3.out.1 OF3.out.2)
        have O4 := hide o4
        clear o4 on4
        refine hK1.out _ _ (HSS.out _ OF4.out.2) (fun hH => ?_)
        clear hK1
        try simp only [Act.put, List.setIfInBounds_toArray, List.set_cons_zero, List.set_cons_succ]
        obtain ⟨ao9, c9, e9⟩ := O4.out.form
        rw [List.length_append, List.length_singleton] at e9
        subst e9
        refine wpAnyH_take (i := 7) (v := .slice ao9 (R.length + 1) c9) rfl (by kernel_rfl) (by kernel_rfl) (by kernel_rfl) (fun _ _ _ h => h) (.inl ⟨by rfl, fun W _ => by go_simp⟩) hH ?_
        change wpAnyH _ _ _ _ _ _ _ (Act.put _ (some 11) _) _
        simp only [Act.put, List.setIfInBounds_toArray, List.set_cons_zero, List.set_cons_succ]
        refine wpAnyH_done (by kernel_rfl) ?_ _
        go_wp2_with fail
        go_meet
        exact ⟨_, rfl, O4.out, OF4.out.2, OF4.out.1⟩
    · have h5 := bsS wd s
      go_simp
      have Y1 := hide (lx_one wd s)
      have C1 := hide (BD.out.alloc BD.out.size (.cells #[.string s] 9))
      refine hK1.out _ _ (HSS.out _ C1.out) (fun hH => ?_)
      clear hK1 h5
      have hz1 := hide (show (wd.alloc (.cells #[.string s] 9)).heap.size = wd.heap.size + 1 by simp)
      generalize wd.alloc (.cells #[.string s] 9) = w5_1 at *
      refine wpAnyH_ready (rs := [0]) (by kernel_rfl) (by simp) (AllReadyH.cons rfl (fun K1 hK1 => ?_) AllReadyH.nil)
      have h5 := bs0T w5_1
      go_simp
      have O0 := hide (ox_none w5_1)
      have C2 := hide (C1.out.alloc C1.out.size (.cells #[] 9))
      refine hK1.out _ _ (HSS.out _ C2.out) (fun hH => ?_)
      clear hK1 h5
      have Y2 := hide (Y1.out.below ((Below.refl _ _).alloc (Nat.le_refl _) (.cells #[] 9)))
      have g0 := hide (show W0.heap.size ≤ w5_1.heap.size from C1.out.size)
      have hz2 := hide (show (w5_1.alloc (.cells #[] 9)).heap.size = w5_1.heap.size + 1 by simp)
      generalize w5_1.alloc (.cells #[] 9) = w0_2 at *
      refine wpAnyH_ready (rs := [2]) (by kernel_rfl) (by simp) (AllReadyH.cons rfl (fun K1 hK1 => ?_) AllReadyH.nil)
      refine stepAppS (by rfl) _ _ (by rfl) (.slice (some ⟨w5_1.heap.size, 0, none⟩) 0 0) [] (by rfl) O0.out (.slice ao1 0 (c0 - L.length)) R (by rfl) (UF.out.below C2.out) (fun _ _ _ => rfl) (by have := HLn.out; simp; omega) (by have := HLn.out; unfold maxLen; simp; omega) ?_
      intro v3 w2_3 o3 on3
      show K1 (Act.put _ (some 59) _) _
      have OF3 := hide (onto_far on3 (w := W0) (fun g hg => by cases hg; exact g0.out) C2.out)
      have Y3 := hide (Y2.out.onto on3 (fun g hg e => by have e1 : wd.heap.size = g := Option.some.inj hg; have e2 : w5_1.heap.size = g := Option.some.inj e; have q1 := hz1.out; have q2 := hz2.out; omega))
      have O3 := hide o3
      rw [List.nil_append] at O3
      clear o3 on3
      refine hK1.out _ _ (HSS.out _ OF3.out.2) (fun hH => ?_)
      clear hK1
      try simp only [Act.put, List.setIfInBounds_toArray, List.set_cons_zero, List.set_cons_succ]
      refine wpAnyH_ready (rs := [6]) (by kernel_rfl) (by simp) (AllReadyH.cons rfl (fun K1 hK1 => ?_) AllReadyH.nil)
      refine stepAppS (by rfl) _ _ (by rfl) v3 R (by rfl) O3.out (.slice (some ⟨wd.heap.size, 0, none⟩) 1 1) [s] (by rfl) Y3.out (fun _ _ e => by cases e) (by have := HLn.out; simp; omega) (by have := HLn.out; unfold maxLen; simp; omega) ?_
      intro v4 w6_4 o4 on4
      show K1 (Act.put _ (some 63) _) _
      have OF4 := hide (onto_far on4 (w := W0) OF3.out.1 OF3.out.2)
      have O4 := hide o4
      clear o4 on4
      refine hK1.out _ _ (HSS.out _ OF4.out.2) (fun hH => ?_)
      clear hK1
      try simp only [Act.put, List.setIfInBounds_toArray, List.set_cons_zero, List.set_cons_succ]
      obtain ⟨ao9, c9, e9⟩ := O4.out.form
      rw [List.length_append, List.length_singleton] at e9
      subst e9
      refine wpAnyH_take (i := 7) (v := .slice ao9 (R.length + 1) c9) rfl (by kernel_rfl) (by kernel_rfl) (by kernel_rfl) (fun _ _ _ h => h) (.inl ⟨by rfl, fun W _ => by go_simp⟩) hH ?_
      change wpAnyH _ _ _ _ _ _ _ (Act.put _ (some 11) _) _
      simp only [Act.put, List.setIfInBounds_toArray, List.set_cons_zero, List.set_cons_succ]
      refine wpAnyH_done (by kernel_rfl) ?_ _
      go_wp2_with fail
      go_meet
      exact ⟨_, rfl, O4.out, OF4.out.2, OF4.out.1⟩
  obtain ⟨u2, rfl, HX⟩ := hcut
  obtain ⟨ao2, c2, e2⟩ := HX.out.1.form
  rw [List.length_append, List.length_singleton] at e2
  subst e2
  have A1 := hide (AC.out.next HX.out.2.1)
  have JW := hide (H0.out.next HX.out.2.1)
  have HLr := hide (lt_heap AC.out.r)
  have KW : Hid (KB (js T gj v) wc) := ⟨KB1.out.1.next HX.out.2.1, KB1.out.2⟩
  have LTJ : Hid (∀ g, W0.heap.size ≤ g → ¬ js T gj v g) := fun g hg => by
    rintro (e | e | e)
    · have := H0.out.dk.lt _ e
      omega
    · have := H0.out.lt
      omega
    · have := H0.out.own.lt _ e
      omega
  have UN : Hid (∀ g, g < W0.heap.size → Value.ownBlock (.slice ao2 (R.length + 1) c2) ≠ some g) := fun g hg e => by
    have := HX.out.2.2 g e
    omega
  have MW : Hid (MU wc T gj v (.slice ao2 (R.length + 1) c2) (R ++ [s])) := MU.made H0.out HX.out.1 HX.out.2.1 HX.out.2.2
  clear H1 HM AC KB1
  go_upto_region 10 with (go_at_call 22; refine (HA.out _ KW.out JW.out.here _ HX.out.1.read (fun g hg => LTJ.out g (HX.out.2.2 g hg))).mono ?_; rintro e w3 ⟨rfl, T3, v3, j3⟩; have J3 := hide j3; have A3 := hide (A1.out.fr j3.bel HJ.out); have M3 := hide (MW.out.over j3); have JO := hide (JW.out.back j3); clear j3)
  have N3 : Hid (∀ g, w.heap.size ≤ g → g < w.heap.size + 3 → ¬ js T3 gj v3 g) := fun g h1 h2 => js_over J3.out (Nat.lt_of_lt_of_le (by have := HLr.out; omega) HX.out.2.1.size) (HJ.out g h1 h2)
  have NR := hide (UN.out (w.heap.size + 1 + 1) HLr.out)
  have a2 := A3.out.a2
  clear J3 A1 JW MW HX HA
  go_upto_region 13 with (go_at_call 23; refine (HRd.out _ _ JO.out.dk).mono ?_; rintro e w4 ⟨rfl, b4⟩; have A4 := hide (A3.out.next b4); have J4 := hide (JO.out.next b4); have M4 := hide (M3.out.next b4); clear b4)
  clear A3 JO M3 a2
  refine wp_region_held_drew (S := fun W => W.cell? ⟨w.heap.size, 1, none⟩ = some (.int .u64 (ep : Int))) (by kernel_rfl) A4.out.m1 (fun hH => ?_)
  refine wpAnyH_take (i := 0) (v := .pointer (some ⟨gj, 0, none⟩)) rfl (by kernel_rfl) (by kernel_rfl) (by kernel_rfl) (fun _ _ _ h => h) (yl_move (by rfl) _ (by rfl) _ (by rfl)) hH ?_
  change wpAnyH _ _ _ _ _ _ _ (Act.put _ (some 80) _) _
  simp only [Act.put, List.setIfInBounds_toArray, List.set_cons_zero, List.set_cons_succ]
  refine wpAnyH_take (i := 1) (v := .slice ao2 (R.length + 1) c2) rfl (by kernel_rfl) (by kernel_rfl) (by kernel_rfl) (fun _ _ _ h => h) (yl_move (by rfl) _ (by rfl) _ (by rfl)) hH ?_
  change wpAnyH _ _ _ _ _ _ _ (Act.put _ (some 81) _) _
  simp only [Act.put, List.setIfInBounds_toArray, List.set_cons_zero, List.set_cons_succ]
  refine wpAnyH_take (i := 2) (v := .pointer (some ⟨w.heap.size, 1, none⟩)) rfl (by kernel_rfl) (by kernel_rfl) (by kernel_rfl) (fun _ _ _ h => h) (.inl ⟨by rfl, fun W _ => by go_simp⟩) hH ?_
  change wpAnyH _ _ _ _ _ _ _ (Act.put _ (some 82) _) _
  simp only [Act.put, List.setIfInBounds_toArray, List.set_cons_zero, List.set_cons_succ]
  refine wpAnyH_take (i := 3) (v := .int .u64 (ep : Int)) rfl (by kernel_rfl) (by kernel_rfl) (by kernel_rfl) (fun _ _ _ h => h) (.inl ⟨by rfl, fun W hS => by have c4 := hS; go_simp⟩) hH ?_
  change wpAnyH _ _ _ _ _ _ _ (Act.put _ (some 83) _) _
  simp only [Act.put, List.setIfInBounds_toArray, List.set_cons_zero, List.set_cons_succ]
  refine wpAnyH_take (i := 4) (v := .int .u64 ((ep : Int) + 1)) rfl (by kernel_rfl) (by kernel_rfl) (by kernel_rfl) (fun _ _ _ h => h) (.inl ⟨by rfl, fun W _ => by go_simp⟩) hH ?_
  change wpAnyH _ _ _ _ _ _ _ (Act.put _ (some 84) _) _
  simp only [Act.put, List.setIfInBounds_toArray, List.set_cons_zero, List.set_cons_succ]
  refine wpAnyH_take (i := 5) (v := .agg #[.slice ao2 (R.length + 1) c2, .int .u64 ((ep : Int) + 1)]) rfl (by kernel_rfl) (by kernel_rfl) (by kernel_rfl) (fun _ _ _ h => h) (.inl ⟨by rfl, fun W _ => by go_simp⟩) hH ?_
  change wpAnyH _ _ _ _ _ _ _ (Act.put _ (some 85) _) _
  simp only [Act.put, List.setIfInBounds_toArray, List.set_cons_zero, List.set_cons_succ]
  refine wpAnyH_take (i := 6) (v := .int .i64 0) rfl (by kernel_rfl) (by kernel_rfl) (by kernel_rfl) (fun _ _ _ h => h) (yl_move (by rfl) _ (by rfl) _ (by rfl)) hH ?_
  change wpAnyH _ _ _ _ _ _ _ (Act.put _ (some 86) _) _
  simp only [Act.put, List.setIfInBounds_toArray, List.set_cons_zero, List.set_cons_succ]
  refine wpAnyH_take (i := 7) (v := .bool true) rfl (by kernel_rfl) (by kernel_rfl) (by kernel_rfl) (fun _ _ _ h => h) (.inl ⟨by rfl, fun W _ => by go_simp⟩) hH ?_
  change wpAnyH _ _ _ _ _ _ _ (Act.put _ (some 87) _) _
  simp only [Act.put, List.setIfInBounds_toArray, List.set_cons_zero, List.set_cons_succ]
  refine wpAnyH_take (i := 8) (v := .bool true) rfl (by kernel_rfl) (by kernel_rfl) (by kernel_rfl) (fun _ _ _ h => h) (yl_move (by rfl) _ (by rfl) _ (by rfl)) hH ?_
  change wpAnyH _ _ _ _ _ _ _ (Act.put _ (some 88) _) _
  simp only [Act.put, List.setIfInBounds_toArray, List.set_cons_zero, List.set_cons_succ]
  refine wpAnyH_take (i := 9) (v := .pointer (some ⟨gd, 0, none⟩)) rfl (by kernel_rfl) (by kernel_rfl) (by kernel_rfl) (fun _ _ _ h => h) (yl_move (by rfl) _ (by rfl) _ (by rfl)) hH ?_
  change wpAnyH _ _ _ _ _ _ _ (Act.put _ (some 89) _) _
  simp only [Act.put, List.setIfInBounds_toArray, List.set_cons_zero, List.set_cons_succ]
  refine wpAnyH_ready (rs := [10]) (by kernel_rfl) (by simp) (AllReadyH.cons rfl (fun K1 hK1 => ?_) AllReadyH.nil)
  go_simp
  refine (HLo.out _ _ (J4.out.next (Below.refl _ _).drew).dk).mono ?_
  rintro e w5 ⟨rfl, hw⟩
  subst w5
  refine hK1.out _ _ A4.out.m1 (fun hH => ?_)
  clear hK1
  refine wpAnyH_take (i := 11) (v := .bool true) rfl (by kernel_rfl) (by kernel_rfl) (by kernel_rfl) (fun _ _ _ h => h) (.inl ⟨by rfl, fun W _ => by go_simp⟩) hH ?_
  change wpAnyH _ _ _ _ _ _ _ (Act.put _ (some 91) _) _
  simp only [Act.put, List.setIfInBounds_toArray, List.set_cons_zero, List.set_cons_succ]
  refine wpAnyH_take (i := 12) (v := .bool true) rfl (by kernel_rfl) (by kernel_rfl) (by kernel_rfl) (fun _ _ _ h => h) (.inl ⟨by rfl, fun W _ => by go_simp⟩) hH ?_
  change wpAnyH _ _ _ _ _ _ _ (Act.put _ (some 92) _) _
  simp only [Act.put, List.setIfInBounds_toArray, List.set_cons_zero, List.set_cons_succ]
  refine wpAnyH_take (i := 13) (v := .bool true) rfl (by kernel_rfl) (by kernel_rfl) (by kernel_rfl) (fun _ _ _ h => h) (yl_move (by rfl) _ (by rfl) _ (by rfl)) hH ?_
  change wpAnyH _ _ _ _ _ _ _ (Act.put _ (some 93) _) _
  simp only [Act.put, List.setIfInBounds_toArray, List.set_cons_zero, List.set_cons_succ]
  refine wpAnyH_take (i := 14) (v := .int .i64 2) rfl (by kernel_rfl) (by kernel_rfl) (by kernel_rfl) (fun _ _ _ h => h) (yl_move (by rfl) _ (by rfl) _ (by rfl)) hH ?_
  change wpAnyH _ _ _ _ _ _ _ (Act.put _ (some 94) _) _
  simp only [Act.put, List.setIfInBounds_toArray, List.set_cons_zero, List.set_cons_succ]
  refine wpAnyH_take (i := 15) (v := .bool true) rfl (by kernel_rfl) (by kernel_rfl) (by kernel_rfl) (fun _ _ _ h => h) (.inl ⟨by rfl, fun W _ => by go_simp⟩) hH ?_
  change wpAnyH _ _ _ _ _ _ _ (Act.put _ (some 95) _) _
  simp only [Act.put, List.setIfInBounds_toArray, List.set_cons_zero, List.set_cons_succ]
  refine wpAnyH_take (i := 16) (v := .bool true) rfl (by kernel_rfl) (by kernel_rfl) (by kernel_rfl) (fun _ _ _ h => h) (.inl ⟨by rfl, fun W _ => by go_simp⟩) hH ?_
  change wpAnyH _ _ _ _ _ _ _ (Act.put _ (some 96) _) _
  simp only [Act.put, List.setIfInBounds_toArray, List.set_cons_zero, List.set_cons_succ]
  refine wpAnyH_take (i := 17) (v := .pointer (some ⟨gj, 0, none⟩)) rfl (by kernel_rfl) (by kernel_rfl) (by kernel_rfl) (fun _ _ _ h => h) (.inl ⟨by rfl, fun W _ => by go_simp⟩) hH ?_
  change wpAnyH _ _ _ _ _ _ _ (Act.put _ (some 8) _) _
  simp only [Act.put, List.setIfInBounds_toArray, List.set_cons_zero, List.set_cons_succ]
  have A5 := hide (A4.out.next (Below.refl w4.heap.size w4).drew)
  have J5 := hide (J4.out.next (Below.refl w4.heap.size w4).drew)
  have M6 := hide (M4.out.next (Below.refl w4.heap.size w4).drew)
  clear A4 J4 M4
  generalize w4.drew = W4 at *
  have q0 : W4.cell? ⟨w.heap.size + 1 + 1, 0, none⟩ = some (.slice none 0 0) := by rw [cell_of_row _ _ 0 _ _ _ A5.out.r]; rfl
  have q1 : W4.cell? ⟨w.heap.size + 1 + 1, 1, none⟩ = some (.int .u64 0) := by rw [cell_of_row _ _ 1 _ _ _ A5.out.r]; rfl
  have f0 := frozen_of_row _ _ 0 _ _ A5.out.r
  have f1 := frozen_of_row _ _ 1 _ _ A5.out.r
  refine wpAnyH_ready (rs := [18]) (by kernel_rfl) (by simp) (AllReadyH.cons rfl (fun K1 hK1 => ?_) AllReadyH.nil)
  go_simp
  have R5 := hide (st2_row (a := .slice ao2 (R.length + 1) c2) (b := .int .u64 ((ep : Int) + 1)) A5.out.r)
  have M5 := hide (((st2_fr W4 (w.heap.size + 1 + 1) (.slice ao2 (R.length + 1) c2) (.int .u64 ((ep : Int) + 1))).block _ (lt_heap A5.out.m) (by omega)).trans A5.out.m)
  refine hK1.out _ (st2 W4 (w.heap.size + 1 + 1) (.slice ao2 (R.length + 1) c2) (.int .u64 ((ep : Int) + 1))) (by rw [cell_of_row _ _ 1 _ _ _ M5.out]; rfl) (fun hH => ?_)
  clear hK1 q0 q1 f0 f1
  refine wpAnyH_take (i := 19) (v := .bool true) rfl (by kernel_rfl) (by kernel_rfl) (by kernel_rfl) (fun _ _ _ h => h) (.inl ⟨by rfl, fun W _ => by go_simp⟩) hH ?_
  change wpAnyH _ _ _ _ _ _ _ (Act.put _ (some 10) _) _
  simp only [Act.put, List.setIfInBounds_toArray, List.set_cons_zero, List.set_cons_succ]
  refine wpAnyH_done (by kernel_rfl) ?_ _
  have FIN := hide (AP.fin2 J5.out HBs.out (N3.out _ (by omega) (by omega)) M6.out NR.out DS.out _ rfl)
  clear M5
  go_wp2
  (try simp only [Exit.inBlock, Exit.then])
  refine bodyPost_ret (resM AMd rfl _ _ (w.heap.size + 1 + 1) _ _ rfl rfl R5.out _ rfl _ rfl) rfl ?_
  exact FIN.out
theorem act_renew_zero_long {ep torn c : Nat} {L : List ByteArray} {u : Value} {kind n : Int} {s : ByteArray} (h : JB K B w gj gd ⟨logN, ep, L, torn, false⟩ x T v) (hu : MU w T gj v u L) (hd : Ds x ep L c) (hc : c < 60) (hK : KB K B) (hs : s.size ≤ 70000) (hk1 : wrap64 (kind.tmod 6 + 6) = kind.tmod 6 + 6) (hk : (kind.tmod 6 + 6).tmod 6 = 3) (hl : 65536 < s.size) (hnm : n = 0) (hpos : 0 < L.length) {gq c0 : Nat} (hrow : u = .slice (some ⟨gq, 0, none⟩) L.length c0) (hcap : L.length ≤ c0) : Calls Tryz.prog 8 #[.pointer (some ⟨gj, 0, none⟩), .pointer (some ⟨gd, 0, none⟩), .agg #[u, .int .u64 (ep : Int)], .agg #[.int .i64 kind, .int .i64 n, .string s]] w fun e w' => AP K B gd c e w' := by
  subst hnm
  subst hrow
  obtain ⟨R, hR⟩ : ∃ R : List ByteArray, R = [] := ⟨_, rfl⟩
  have hRm : R.length = 0 := by rw [hR]; rfl
  have b0 := acW_bel w (.slice (some ⟨gq, 0, none⟩) L.length c0) ep kind 0 s
  have AC := hide (acW_ac w (.slice (some ⟨gq, 0, none⟩) L.length c0) ep kind 0 s)
  have H0 := hide (h.next b0)
  have H1 := hide (h.next b0).here
  have HJ := hide (js_not h)
  have HM := hide (hu.next b0)
  have HUn : Hid (∀ g, w.heap.size ≤ g → Value.ownBlock (.slice (some ⟨gq, 0, none⟩) L.length c0) ≠ some g) := fun g hg e => by
    have := (hu.far g e).1
    omega
  have HBs : Hid (B.heap.size ≤ w.heap.size + 1 + 1) := by
    have := h.bel.size
    show _ ≤ _
    omega
  have KB1 : Hid (KB (js T gj v) (acW w (.slice (some ⟨gq, 0, none⟩) L.length c0) ep kind 0 s)) := by
    have kg := hK.at_ (h.next b0).bel
    refine ⟨kg, fun c => ?_⟩
    have up : K 0 ∨ B.heap.size ≤ 0 := by
      rcases c with c | c | c
      · exact h.far _ c
      · exact c ▸ h.jfar
      · exact (h.vfar _ c).1
    rcases up with c | c
    · exact hK.2 c
    · have := hK.1.lt
      omega
  have hRs : ∀ t ∈ R, t.size ≤ 65536 := fun t ht => hd.short t (by rw [hR] at ht; cases ht)
  have hRl : (R).length ≤ c := by have := hd.many; have := hRm; omega
  have fb : flen (dl (R ++ [s])) ≤ 16777216 := by
    have h1 := flen_bound R hRs
    have h2 : s.data.toList.length = s.size := by simp
    rw [dl_app]
    show flen (dl R ++ [s.data.toList]) ≤ _
    rw [flen_snoc]
    omega
  have HLn := hide (show (R).length ≤ 60 by omega)
  have HA := hide fun W (hk : KB (js T gj v) W) (j : JB (js T gj v) W W gj gd ⟨logN, ep, L, torn, false⟩ x T v) u' (l : LX KS W u' (R ++ [s])) => renew_long j hk rfl u' (R ++ [s]) l (by have := hd.epo; show ep + 1 < _; omega) (by omega) (fun t ht => by
    rcases List.mem_append.1 ht with ht | ht
    · have := hRs t ht; omega
    · rw [List.mem_singleton.1 ht]; omega) ⟨s, by simp, hl⟩
  have DS := hide hd.more
  have l1 : (65536 : Int) < s.size := by omega
  have a1 := AC.out.a1
  have m0 := AC.out.m0
  have n1 : (0 : Int) < (L.length : Int) := by omega
  have e1 : IntKind.i64.wrap (L.length : Int) = (L.length : Int) := wrapI _ (by omega) (by have := hd.many; omega)
  have s1 := fun W => sl1Z gq L.length c0 hcap W
  have e0 : ∃ g' k', (if c0 = L.length then some ⟨gq, 0, none⟩ else some ⟨gq, L.length, none⟩ : Option Addr) = some ⟨g', k', none⟩ := by split <;> exact ⟨_, _, rfl⟩
  obtain ⟨ao1, hao⟩ : ∃ ao1 : Option Addr, ao1 = (if c0 = L.length then some ⟨gq, 0, none⟩ else some ⟨gq, L.length, none⟩) := ⟨_, rfl⟩
  rw [← hao] at s1
  have UF : Hid (LX KS (acW w (.slice (some ⟨gq, 0, none⟩) L.length c0) ep kind 0 s) (.slice ao1 0 (c0 - L.length)) R) := by
    rw [hR]
    exact ⟨_, _, rfl, Nat.zero_le _, fun i hi => by simp at hi⟩
  clear hR hRm hao e0
  have HBs2 := hide h.bel.size
  clear hl fb hRs hRl
  unfold acW at *
  clear h hd hc b0 hK
  go_enter Tryz.func8, Tryz.ntmps8
  go_upto_region 8 with fail
  generalize ((w.alloc (.cells #[.slice (some ⟨gq, 0, none⟩) L.length c0, .int .u64 (ep : Int)] 33)).alloc (.cells #[.int .i64 kind, .int .i64 0, .string s] 35)).alloc (.cells #[.slice none 0 0, .int .u64 0] 33) = W0 at *
  clear hk1 hk a1 m0
  have HSS : Hid (∀ W, Below W0.heap.size W0 W → W.cell? ⟨w.heap.size + 1, 2, none⟩ = some (.string s)) := fun W b => (AC.out.next b).a2
  go_cut [11] from 57 to 63 (fun s11 wx => ∃ u', s11 = u' ∧ Hid (OX KS wx u' (R ++ [s]) ∧ Below W0.heap.size W0 wx ∧ ∀ g, u'.ownBlock = some g → W0.heap.size ≤ g))
  case first =>
    refine wp_region_held_drew (S := fun W => W.cell? ⟨w.heap.size + 1, 2, none⟩ = some (.string s)) (by kernel_rfl) (HSS.out _ (Below.refl _ _).drew) (fun hH => ?_)
    refine wpAnyH_take (i := 1) (v := .slice ao1 0 (c0 - L.length)) rfl (by kernel_rfl) (by kernel_rfl) (by kernel_rfl) (fun _ _ _ h => h) (yl_move (by rfl) _ (by rfl) _ (by rfl)) hH ?_
    change wpAnyH _ _ _ _ _ _ _ (Act.put _ (some 58) _) _
    simp only [Act.put, List.setIfInBounds_toArray, List.set_cons_zero, List.set_cons_succ]
    refine wpAnyH_take (i := 3) (v := .pointer (some ⟨w.heap.size + 1, 2, none⟩)) rfl (by kernel_rfl) (by kernel_rfl) (by kernel_rfl) (fun _ _ _ h => h) (.inl ⟨by rfl, fun W _ => by go_simp⟩) hH ?_
    change wpAnyH _ _ _ _ _ _ _ (Act.put _ (some 60) _) _
    simp only [Act.put, List.setIfInBounds_toArray, List.set_cons_zero, List.set_cons_succ]
    refine wpAnyH_take (i := 4) (v := .string s) rfl (by kernel_rfl) (by kernel_rfl) (by kernel_rfl) (fun _ _ _ h => h) (.inl ⟨by rfl, fun W hS => by have c4 := hS; go_simp⟩) hH ?_
    change wpAnyH _ _ _ _ _ _ _ (Act.put _ (some 61) _) _
    simp only [Act.put, List.setIfInBounds_toArray, List.set_cons_zero, List.set_cons_succ]
    have BD := hide (Below.refl W0.heap.size W0).drew
    generalize W0.drew = wd at *
    refine wpAnyH_ready (rs := [0, 5]) (by kernel_rfl) (by simp) (AllReadyH.cons rfl (fun K1 hK1 => ?_) (AllReadyH.cons rfl (fun K1 hK1 => ?_) AllReadyH.nil))
    · have h5 := bs0T wd
      go_simp
      have O0 := hide (ox_none wd)
      have C1 := hide (BD.out.alloc BD.out.size (.cells #[] 9))
      refine hK1.out _ _ (HSS.out _ C1.out) (fun hH => ?_)
      clear hK1 h5
      have g0 := hide (show W0.heap.size ≤ wd.heap.size from BD.out.size)
      have hz1 := hide (show (wd.alloc (.cells #[] 9)).heap.size = wd.heap.size + 1 by simp)
      generalize wd.alloc (.cells #[] 9) = w0_1 at *
      refine wpAnyH_ready (rs := [2, 5]) (by kernel_rfl) (by simp) (AllReadyH.cons rfl (fun K1 hK1 => ?_) (AllReadyH.cons rfl (fun K1 hK1 => ?_) AllReadyH.nil))
      · refine stepAppS (by rfl) _ _ (by rfl) (.slice (some ⟨wd.heap.size, 0, none⟩) 0 0) [] (by rfl) O0.out (.slice ao1 0 (c0 - L.length)) R (by rfl) (UF.out.below C1.out) (fun _ _ _ => rfl) (by have := HLn.out; simp; omega) (by have := HLn.out; unfold maxLen; simp; omega) ?_
        intro v2 w2_2 o2 on2
        show K1 (Act.put _ (some 59) _) _
        have OF2 := hide (onto_far on2 (w := W0) (fun g hg => by cases hg; exact g0.out) C1.out)
        have O2 := hide o2
        rw [List.nil_append] at O2
        clear o2 on2
        refine hK1.out _ _ (HSS.out _ OF2.out.2) (fun hH => ?_)
        clear hK1
        try simp only [Act.put, List.setIfInBounds_toArray, List.set_cons_zero, List.set_cons_succ]
        refine wpAnyH_ready (rs := [5]) (by kernel_rfl) (by simp) (AllReadyH.cons rfl (fun K1 hK1 => ?_) AllReadyH.nil)
        have h5 := bsS w2_2 s
        go_simp
        have Y3 := hide (lx_one w2_2 s)
        have C3 := hide (OF2.out.2.alloc OF2.out.2.size (.cells #[.string s] 9))
        refine hK1.out _ _ (HSS.out _ C3.out) (fun hH => ?_)
        clear hK1 h5
        have O3 := hide (O2.out.below ((Below.refl _ _).alloc (Nat.le_refl _) (.cells #[.string s] 9)))
        have hz3 := hide (show (w2_2.alloc (.cells #[.string s] 9)).heap.size = w2_2.heap.size + 1 by simp)
        generalize w2_2.alloc (.cells #[.string s] 9) = w5_3 at *
        refine wpAnyH_ready (rs := [6]) (by kernel_rfl) (by simp) (AllReadyH.cons rfl (fun K1 hK1 => ?_) AllReadyH.nil)
        refine stepAppS (by rfl) _ _ (by rfl) v2 R (by rfl) O3.out (.slice (some ⟨w2_2.heap.size, 0, none⟩) 1 1) [s] (by rfl) Y3.out (fun _ _ e => by cases e) (by have := HLn.out; simp; omega) (by have := HLn.out; unfold maxLen; simp; omega) ?_
        intro v4 w6_4 o4 on4
        show K1 (Act.put _ (some 63) _) _
        have OF4 := hide (onto_far on4 (w := W0) OF2.out.1 C3.out)
        have O4 := hide o4
        clear o4 on4
        refine hK1.out _ _ (HSS.out _ OF4.out.2) (fun hH => ?_)
        clear hK1
        try simp only [Act.put, List.setIfInBounds_toArray, List.set_cons_zero, List.set_cons_succ]
        obtain ⟨ao9, c9, e9⟩ := O4.out.form
        rw [List.length_append, List.length_singleton] at e9
        subst e9
        refine wpAnyH_take (i := 7) (v := .slice ao9 (R.length + 1) c9) rfl (by kernel_rfl) (by kernel_rfl) (by kernel_rfl) (fun _ _ _ h => h) (.inl ⟨by rfl, fun W _ => by go_simp⟩) hH ?_
        change wpAnyH _ _ _ _ _ _ _ (Act.put _ (some 11) _) _
        simp only [Act.put, List.setIfInBounds_toArray, List.set_cons_zero, List.set_cons_succ]
        refine wpAnyH_done (by kernel_rfl) ?_ _
        go_wp2_with fail
        go_meet
        exact ⟨_, rfl, O4.out, OF4.out.2, OF4.out.1⟩
      · have h5 := bsS w0_1 s
        go_simp
        have Y2 := hide (lx_one w0_1 s)
        have C2 := hide (C1.out.alloc C1.out.size (.cells #[.string s] 9))
        refine hK1.out _ _ (HSS.out _ C2.out) (fun hH => ?_)
        clear hK1 h5
        have O2 := hide (O0.out.below ((Below.refl _ _).alloc (Nat.le_refl _) (.cells #[.string s] 9)))
        have hz2 := hide (show (w0_1.alloc (.cells #[.string s] 9)).heap.size = w0_1.heap.size + 1 by simp)
        generalize w0_1.alloc (.cells #[.string s] 9) = w5_2 at *
        refine wpAnyH_ready (rs := [2]) (by kernel_rfl) (by simp) (AllReadyH.cons rfl (fun K1 hK1 => ?_) AllReadyH.nil)
        refine stepAppS (by rfl) _ _ (by rfl) (.slice (some ⟨wd.heap.size, 0, none⟩) 0 0) [] (by rfl) O2.out (.slice ao1 0 (c0 - L.length)) R (by rfl) (UF.out.below C2.out) (fun _ _ _ => rfl) (by have := HLn.out; simp; omega) (by have := HLn.out; unfold maxLen; simp; omega) ?_
        intro v3 w2_3 o3 on3
        show K1 (Act.put _ (some 59) _) _
        have OF3 := hide (onto_far on3 (w := W0) (fun g hg => by cases hg; exact g0.out) C2.out)
        have Y3 := hide (Y2.out.onto on3 (fun g hg e => by have e1 : w0_1.heap.size = g := Option.some.inj hg; have e2 : wd.heap.size = g := Option.some.inj e; have q1 := hz1.out; have q2 := hz2.out; omega))
        have O3 := hide o3
        rw [List.nil_append] at O3
        clear o3 on3
        refine hK1.out _ _ (HSS.out _ OF3.out.2) (fun hH => ?_)
        clear hK1
        try simp only [Act.put, List.setIfInBounds_toArray, List.set_cons_zero, List.set_cons_succ]
        refine wpAnyH_ready (rs := [6]) (by kernel_rfl) (by simp) (AllReadyH.cons rfl (fun K1 hK1 => ?_) AllReadyH.nil)
        refine stepAppS (by rfl) _ _ (by rfl) v3 R (by rfl) O3.out (.slice (some ⟨w0_1.heap.size, 0, none⟩) 1 1) [s] (by rfl) Y3.out (fun _ _ e => by cases e) (by have := HLn.out; simp; omega) (by have := HLn.out; unfold maxLen; simp; omega) ?_
        intro v4 w6_4 o4 on4
        show K1 (Act.put _ (some 63) _) _
        have OF4 := hide (onto_far on4 (w := W0) OF3.out.1 OF3.out.2)
        have O4 := hide o4
        clear o4 on4
        refine hK1.out _ _ (HSS.out _ OF4.out.2) (fun hH => ?_)
        clear hK1
        try simp only [Act.put, List.setIfInBounds_toArray, List.set_cons_zero, List.set_cons_succ]
        obtain ⟨ao9, c9, e9⟩ := O4.out.form
        rw [List.length_append, List.length_singleton] at e9
        subst e9
        refine wpAnyH_take (i := 7) (v := .slice ao9 (R.length + 1) c9) rfl (by kernel_rfl) (by kernel_rfl) (by kernel_rfl) (fun _ _ _ h => h) (.inl ⟨by rfl, fun W _ => by go_simp⟩) hH ?_
        change wpAnyH _ _ _ _ _ _ _ (Act.put _ (some 11) _) _
        simp only [Act.put, List.setIfInBounds_toArray, List.set_cons_zero, List.set_cons_succ]
        refine wpAnyH_done (by kernel_rfl) ?_ _
        go_wp2_with fail
        go_meet
        exact ⟨_, rfl, O4.out, OF4.out.2, OF4.out.1⟩
    · have h5 := bsS wd s
      go_simp
      have Y1 := hide (lx_one wd s)
      have C1 := hide (BD.out.alloc BD.out.size (.cells #[.string s] 9))
      refine hK1.out _ _ (HSS.out _ C1.out) (fun hH => ?_)
      clear hK1 h5
      have hz1 := hide (show (wd.alloc (.cells #[.string s] 9)).heap.size = wd.heap.size + 1 by simp)
      generalize wd.alloc (.cells #[.string s] 9) = w5_1 at *
      refine wpAnyH_ready (rs := [0]) (by kernel_rfl) (by simp) (AllReadyH.cons rfl (fun K1 hK1 => ?_) AllReadyH.nil)
      have h5 := bs0T w5_1
      go_simp
      have O0 := hide (ox_none w5_1)
      have C2 := hide (C1.out.alloc C1.out.size (.cells #[] 9))
      refine hK1.out _ _ (HSS.out _ C2.out) (fun hH => ?_)
      clear hK1 h5
      have Y2 := hide (Y1.out.below ((Below.refl _ _).alloc (Nat.le_refl _) (.cells #[] 9)))
      have g0 := hide (show W0.heap.size ≤ w5_1.heap.size from C1.out.size)
      have hz2 := hide (show (w5_1.alloc (.cells #[] 9)).heap.size = w5_1.heap.size + 1 by simp)
      generalize w5_1.alloc (.cells #[] 9) = w0_2 at *
      refine wpAnyH_ready (rs := [2]) (by kernel_rfl) (by simp) (AllReadyH.cons rfl (fun K1 hK1 => ?_) AllReadyH.nil)
      refine stepAppS (by rfl) _ _ (by rfl) (.slice (some ⟨w5_1.heap.size, 0, none⟩) 0 0) [] (by rfl) O0.out (.slice ao1 0 (c0 - L.length)) R (by rfl) (UF.out.below C2.out) (fun _ _ _ => rfl) (by have := HLn.out; simp; omega) (by have := HLn.out; unfold maxLen; simp; omega) ?_
      intro v3 w2_3 o3 on3
      show K1 (Act.put _ (some 59) _) _
      have OF3 := hide (onto_far on3 (w := W0) (fun g hg => by cases hg; exact g0.out) C2.out)
      have Y3 := hide (Y2.out.onto on3 (fun g hg e => by have e1 : wd.heap.size = g := Option.some.inj hg; have e2 : w5_1.heap.size = g := Option.some.inj e; have q1 := hz1.out; have q2 := hz2.out; omega))
      have O3 := hide o3
      rw [List.nil_append] at O3
      clear o3 on3
      refine hK1.out _ _ (HSS.out _ OF3.out.2) (fun hH => ?_)
      clear hK1
      try simp only [Act.put, List.setIfInBounds_toArray, List.set_cons_zero, List.set_cons_succ]
      refine wpAnyH_ready (rs := [6]) (by kernel_rfl) (by simp) (AllReadyH.cons rfl (fun K1 hK1 => ?_) AllReadyH.nil)
      refine stepAppS (by rfl) _ _ (by rfl) v3 R (by rfl) O3.out (.slice (some ⟨wd.heap.size, 0, none⟩) 1 1) [s] (by rfl) Y3.out (fun _ _ e => by cases e) (by have := HLn.out; simp; omega) (by have := HLn.out; unfold maxLen; simp; omega) ?_
      intro v4 w6_4 o4 on4
      show K1 (Act.put _ (some 63) _) _
      have OF4 := hide (onto_far on4 (w := W0) OF3.out.1 OF3.out.2)
      have O4 := hide o4
      clear o4 on4
      refine hK1.out _ _ (HSS.out _ OF4.out.2) (fun hH => ?_)
      clear hK1
      try simp only [Act.put, List.setIfInBounds_toArray, List.set_cons_zero, List.set_cons_succ]
      obtain ⟨ao9, c9, e9⟩ := O4.out.form
      rw [List.length_append, List.length_singleton] at e9
      subst e9
      refine wpAnyH_take (i := 7) (v := .slice ao9 (R.length + 1) c9) rfl (by kernel_rfl) (by kernel_rfl) (by kernel_rfl) (fun _ _ _ h => h) (.inl ⟨by rfl, fun W _ => by go_simp⟩) hH ?_
      change wpAnyH _ _ _ _ _ _ _ (Act.put _ (some 11) _) _
      simp only [Act.put, List.setIfInBounds_toArray, List.set_cons_zero, List.set_cons_succ]
      refine wpAnyH_done (by kernel_rfl) ?_ _
      go_wp2_with fail
      go_meet
      exact ⟨_, rfl, O4.out, OF4.out.2, OF4.out.1⟩
  obtain ⟨u2, rfl, HX⟩ := hcut
  obtain ⟨ao2, c2, e2⟩ := HX.out.1.form
  rw [List.length_append, List.length_singleton] at e2
  subst e2
  have A1 := hide (AC.out.next HX.out.2.1)
  have JW := hide (H0.out.next HX.out.2.1)
  have HLr := hide (lt_heap AC.out.r)
  have KW : Hid (KB (js T gj v) wc) := ⟨KB1.out.1.next HX.out.2.1, KB1.out.2⟩
  have LTJ : Hid (∀ g, W0.heap.size ≤ g → ¬ js T gj v g) := fun g hg => by
    rintro (e | e | e)
    · have := H0.out.dk.lt _ e
      omega
    · have := H0.out.lt
      omega
    · have := H0.out.own.lt _ e
      omega
  have UN : Hid (∀ g, g < W0.heap.size → Value.ownBlock (.slice ao2 (R.length + 1) c2) ≠ some g) := fun g hg e => by
    have := HX.out.2.2 g e
    omega
  clear H1 KB1
  go_upto_region 11 with (first | (go_at_call 22; refine (HA.out _ KW.out JW.out.here _ HX.out.1.read).mono ?_; rintro e w3 ⟨rfl, b3⟩; have A3 := hide (A1.out.next b3); have J3 := hide (JW.out.next b3); have M3 := hide ((HM.out.next HX.out.2.1).next b3); have a2 := (A1.out.next b3).a2; clear b3))
  refine wp_region_held_drew (S := fun W => W.cell? ⟨w.heap.size, 0, none⟩ = some (.slice (some ⟨gq, 0, none⟩) L.length c0) ∧ W.cell? ⟨w.heap.size, 1, none⟩ = some (.int .u64 (ep : Int))) (by kernel_rfl) ⟨A3.out.m0, A3.out.m1⟩ (fun hH => ?_)
  refine wpAnyH_take (i := 0) (v := .pointer (some ⟨gj, 0, none⟩)) rfl (by kernel_rfl) (by kernel_rfl) (by kernel_rfl) (fun _ _ _ h => h) (yl_move (by rfl) _ (by rfl) _ (by rfl)) hH ?_
  change wpAnyH _ _ _ _ _ _ _ (Act.put _ (some 71) _) _
  simp only [Act.put, List.setIfInBounds_toArray, List.set_cons_zero, List.set_cons_succ]
  refine wpAnyH_take (i := 1) (v := .agg #[.slice (some ⟨gq, 0, none⟩) L.length c0, .int .u64 (ep : Int)]) rfl (by kernel_rfl) (by kernel_rfl) (by kernel_rfl) (fun _ _ _ h => h) (.inl ⟨by rfl, fun W hS => by have c4 := hS.1; have c5 := hS.2; go_simp⟩) hH ?_
  change wpAnyH _ _ _ _ _ _ _ (Act.put _ (some 72) _) _
  simp only [Act.put, List.setIfInBounds_toArray, List.set_cons_zero, List.set_cons_succ]
  refine wpAnyH_take (i := 2) (v := .int .i64 121) rfl (by kernel_rfl) (by kernel_rfl) (by kernel_rfl) (fun _ _ _ h => h) (yl_move (by rfl) _ (by rfl) _ (by rfl)) hH ?_
  change wpAnyH _ _ _ _ _ _ _ (Act.put _ (some 73) _) _
  simp only [Act.put, List.setIfInBounds_toArray, List.set_cons_zero, List.set_cons_succ]
  refine wpAnyH_take (i := 3) (v := .bool true) rfl (by kernel_rfl) (by kernel_rfl) (by kernel_rfl) (fun _ _ _ h => h) (.inl ⟨by rfl, fun W _ => by go_simp⟩) hH ?_
  change wpAnyH _ _ _ _ _ _ _ (Act.put _ (some 74) _) _
  simp only [Act.put, List.setIfInBounds_toArray, List.set_cons_zero, List.set_cons_succ]
  refine wpAnyH_take (i := 4) (v := .pointer (some ⟨gj, 0, none⟩)) rfl (by kernel_rfl) (by kernel_rfl) (by kernel_rfl) (fun _ _ _ h => h) (.inl ⟨by rfl, fun W _ => by go_simp⟩) hH ?_
  change wpAnyH _ _ _ _ _ _ _ (Act.put _ (some 8) _) _
  simp only [Act.put, List.setIfInBounds_toArray, List.set_cons_zero, List.set_cons_succ]
  have A4 := hide (A3.out.next (Below.refl w3.heap.size w3).drew)
  have J4 := hide (J3.out.next (Below.refl w3.heap.size w3).drew)
  have M4 := hide (M3.out.next (Below.refl w3.heap.size w3).drew)
  have NJ := hide (HJ.out (w.heap.size + 1 + 1) (by omega) (by omega))
  clear A3 J3 M3
  generalize w3.drew = W4 at *
  have q0 : W4.cell? ⟨w.heap.size + 1 + 1, 0, none⟩ = some (.slice none 0 0) := by rw [cell_of_row _ _ 0 _ _ _ A4.out.r]; rfl
  have q1 : W4.cell? ⟨w.heap.size + 1 + 1, 1, none⟩ = some (.int .u64 0) := by rw [cell_of_row _ _ 1 _ _ _ A4.out.r]; rfl
  have f0 := frozen_of_row _ _ 0 _ _ A4.out.r
  have f1 := frozen_of_row _ _ 1 _ _ A4.out.r
  refine wpAnyH_ready (rs := [5]) (by kernel_rfl) (by simp) (AllReadyH.cons rfl (fun K1 hK1 => ?_) AllReadyH.nil)
  go_simp
  have R5 := hide (st2_row (a := .slice (some ⟨gq, 0, none⟩) L.length c0) (b := .int .u64 (ep : Int)) A4.out.r)
  have M5 := hide (((st2_fr W4 (w.heap.size + 1 + 1) (.slice (some ⟨gq, 0, none⟩) L.length c0) (.int .u64 (ep : Int))).block _ (lt_heap A4.out.m) (by omega)).trans A4.out.m)
  refine hK1.out _ (st2 W4 (w.heap.size + 1 + 1) (.slice (some ⟨gq, 0, none⟩) L.length c0) (.int .u64 (ep : Int))) ⟨by rw [cell_of_row _ _ 0 _ _ _ M5.out]; rfl, by rw [cell_of_row _ _ 1 _ _ _ M5.out]; rfl⟩ (fun hH => ?_)
  clear hK1 q0 q1 f0 f1
  refine wpAnyH_take (i := 6) (v := .bool true) rfl (by kernel_rfl) (by kernel_rfl) (by kernel_rfl) (fun _ _ _ h => h) (.inl ⟨by rfl, fun W _ => by go_simp⟩) hH ?_
  change wpAnyH _ _ _ _ _ _ _ (Act.put _ (some 10) _) _
  simp only [Act.put, List.setIfInBounds_toArray, List.set_cons_zero, List.set_cons_succ]
  refine wpAnyH_done (by kernel_rfl) ?_ _
  have FIN := hide (AP.fin2 J4.out HBs.out NJ.out M4.out (HUn.out _ (by omega)) DS.out _ rfl)
  clear M5
  go_wp2
  (try simp only [Exit.inBlock, Exit.then])
  refine bodyPost_ret (resM AMd rfl _ _ (w.heap.size + 1 + 1) _ _ rfl rfl R5.out _ rfl _ rfl) rfl ?_
  exact FIN.out
end
end Go.Proofs.YtgncphoaknffnaaGreatDoor
