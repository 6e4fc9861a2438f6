/- The contract of the document's Next. -/
import Derived.Test.YtjbiiiblnkpddaaTp
import Derived.Test.YtjbiiiblnkpddaaTn
namespace Go.Proofs.Ytjbiiiblnkpddaa
open Go.RowKit
open Go.Deep
theorem bn_one1 (j : Nat) (_ : j < 40) : (if j = 0 then 1 else dg 256 0 j) = dg 256 1 j := by
  by_cases h : j = 0
  · subst h; rfl
  · rw [if_neg h, dg_zero]
    have : 256 ^ 1 ≤ 256 ^ j := Nat.pow_le_pow_right (by decide) (by omega)
    rw [dg, Nat.div_eq_of_lt (by omega), Nat.zero_mod]
section
set_option maxRecDepth 10000
set_option maxHeartbeats 8000000
theorem nextN_no (b f l : Nat) (hb : b < 4294967296) (h : okB b = false) (w : World) : Calls Try.prog 28 #[.int .u32 (b : Int), .int .u32 (f : Int), .int .u32 (l : Int)] w fun e w' => e = .returned (.tuple #[.int .u32 0, .bool false]) ∧ Below w.heap.size w w' := by
  have HE := hide fun W => expandN_any b hb W
  rw [h] at HE
  generalize xt b = X at *
  clear hb h
  go_enter Try.func28, Try.ntmps28
  go_wp2_with (first | (go_at_call 8; refine (HE.out _).mono ?_; rintro e w1 ⟨rfl, be⟩; have K1 := hide (below_next be (below_allocZ w1 (.cells (bn X) 30))); clear be) | refine wpList_allocA AN rfl rfl ?_ | refine wpList_store_newA AN rfl _ _ rfl _ rfl (bn X) (bn_size _) (bn_one _) rfl rfl ?_)
  go_ret2
  exact ⟨rfl, K1.out⟩
theorem nextN_yes (b f l : Nat) (hb : b < 4294967296) (hf : f < 4294967296) (hl : l < 4294967296) (h : okB b = true) (w : World) : Calls Try.prog 28 #[.int .u32 (b : Int), .int .u32 (f : Int), .int .u32 (l : Int)] w fun e w' => e = .returned (.tuple #[.int .u32 ((cpt (nxt (tgt b) (spn f l)) : Nat) : Int), .bool true]) ∧ Below w.heap.size w w' := by
  have HE := hide fun W => expandN_any b hb W
  rw [h, show xt b = tgt b by unfold xt; rw [h]; rfl] at HE
  have hT := ((okB_iff b).1 h).2.2
  obtain ⟨s1, s2⟩ := spn_in f l
  have HTi := hide fun W => times_any (tgt b) (spn f l) (by omega) W
  have hpr : tgt b * spn f l < MB := by
    have h1 : tgt b * spn f l ≤ Lm * 1920 := Nat.mul_le_mul hT s2
    have h2 : Lm * 1920 < MB := by decide +kernel
    omega
  have HOv : Hid (∀ W, Calls Try.prog 42 #[.agg (bn (tgt b * spn f l)), .int .i64 480] W fun e w' => e = .returned (.agg (bn (tgt b * spn f l / 480))) ∧ Below W.heap.size W w') := fun W => over_any _ 480 hpr (by decide) (by decide) W
  have hv : tgt b * spn f l / 480 < MB := Nat.lt_of_le_of_lt (Nat.div_le_self _ _) hpr
  have HL := hide fun W => limitN_any W
  have HLs := hide fun W => less_any _ _ Lm_MB hv W
  have HVZ := hide fun W => zeroN_any _ hv W
  have HLZ := hide fun W => zeroN_any Lm Lm_MB W
  rw [show decide (Lm = 0) = false by decide +kernel] at HLZ
  have hxM := nxt_M (tgt b) (spn f l)
  have HCp := hide fun W => compactN_any (nxt (tgt b) (spn f l)) (Nat.lt_trans hxM M_MB) (Nat.le_trans (szB_le _ hxM) (by decide)) W
  have hn : nxt (tgt b) (spn f l) = if decide (Lm < tgt b * spn f l / 480) then Lm else if decide (tgt b * spn f l / 480 = 0) then 1 else tgt b * spn f l / 480 := by
    have hL0 : 0 < Lm := by decide +kernel
    unfold nxt
    generalize tgt b * spn f l / 480 = V at *
    simp only [decide_eq_true_eq]
    split
    · omega
    · split <;> omega
  rw [hn] at HCp ⊢
  have hsp : (f ≤ l ∧ l - f < 120 ∧ spn f l = 120) ∨ (f ≤ l ∧ 120 ≤ l - f ∧ l - f ≤ 1920 ∧ spn f l = l - f) ∨ (f ≤ l ∧ 1920 < l - f ∧ spn f l = 1920) ∨ (¬ f ≤ l ∧ spn f l = 120) := by
    unfold spn
    by_cases h : f ≤ l
    · rw [if_pos h]; omega
    · rw [if_neg h]; omega
  have hVz : Hid (decide (tgt b * spn f l / 480 = 0) = true → tgt b * spn f l / 480 = 0) := fun h => of_decide_eq_true h
  obtain ⟨S, hS⟩ : ∃ S : Int, S = ((spn f l : Nat) : Int) := ⟨_, rfl⟩
  rw [← hS] at HTi
  generalize decide (Lm < tgt b * spn f l / 480) = lt at *
  generalize decide (tgt b * spn f l / 480 = 0) = vz at *
  generalize hV : tgt b * spn f l / 480 = V at *
  generalize tgt b * spn f l = P at *
  generalize spn f l = s at *
  generalize tgt b = X at *
  generalize Lm = L at *
  generalize cpt (if lt = true then L else if vz = true then 1 else V) = C at *
  have hwd : f ≤ l → IntKind.u32.wrap ((l : Int) - (f : Int)) = ((l - f : Nat) : Int) := fun h => by simp only [IntKind.wrap_u32]; omega
  have hw2 : IntKind.i64.wrap ((l - f : Nat) : Int) = ((l - f : Nat) : Int) := wrapI _ (by omega) (by omega)
  have HWD := hide hwd
  have HSP := hide hsp
  have J0 := hide (Rc.nil w)
  have HSe := hide hS
  clear hb h hT s1 s2 hpr hv hxM hn hV hsp hwd hf hl hS
  go_enter Try.func28, Try.ntmps28
  go_upto_region 5 with (first | (go_at_call 8; refine (HE.out _).mono ?_; rintro e w1 ⟨rfl, be⟩; have J1 := hide ((J0.out.next be).new 30 (bn X)); have hgl := hide (show w.heap.size ≤ w1.heap.size from (below_next J0.out.bel be).size); clear be) | refine wpList_allocA AN rfl rfl ?_ | refine wpList_store_newA AN rfl _ _ rfl _ rfl (bn X) (bn_size _) (bn_one _) rfl rfl ?_)
  generalize w1.alloc (.cells (bn X) 30) = W1 at *
  generalize w1.heap.size = g at *
  have rX := hide (J1.out.at (g := g) (t := 30) (c := bn X) (by simp))
  rcases HSP.out with ⟨h1, h2, h3⟩ | ⟨h1, h2, h2', h3⟩ | ⟨h1, h2, h3⟩ | ⟨h1, h3⟩
  case' inl =>
    have t1 : (f : Int) ≤ (l : Int) := by omega
    have wd := HWD.out h1
    have t2 : ((l - f : Nat) : Int) < 120 := by omega
    generalize l - f = d at *
    have hS : S = 120 := by rw [HSe.out, h3]; rfl
    clear h1 h2 HSe HSP
    subst hS
    go_upto_region 12 with fail
  case' inr.inl =>
    have t1 : (f : Int) ≤ (l : Int) := by omega
    have wd := HWD.out h1
    have t2 : ¬ ((l - f : Nat) : Int) < 120 := by omega
    have t3 : ¬ (1920 : Int) < ((l - f : Nat) : Int) := by omega
    generalize l - f = d at *
    have hS : S = (d : Int) := by rw [HSe.out, h3]
    clear h1 h2 h2' HSe HSP
    subst hS
    go_upto_region 12 with fail
  case' inr.inr.inl =>
    have t1 : (f : Int) ≤ (l : Int) := by omega
    have wd := HWD.out h1
    have t2 : ¬ ((l - f : Nat) : Int) < 120 := by omega
    have t3 : (1920 : Int) < ((l - f : Nat) : Int) := by omega
    generalize l - f = d at *
    have hS : S = 1920 := by rw [HSe.out, h3]; rfl
    clear h1 h2 HSe HSP
    subst hS
    go_upto_region 12 with fail
  case' inr.inr.inr =>
    have t1 : ¬ (f : Int) ≤ (l : Int) := by omega
    have hS : S = 120 := by rw [HSe.out, h3]; rfl
    clear h1 HSe HSP
    subst hS
    go_upto_region 12 with fail
  all_goals
    go_upto_region 13 with (first | refine wpList_loadA AN rfl _ rfl g rfl (bn X) (bn_size _) 30 rX.out ?_ | (go_at_call 19; refine (HTi.out _).mono ?_; rintro e w2 ⟨rfl, be⟩; have J2 := hide (J1.out.next be); clear be) | (go_at_call 42; refine (HOv.out _).mono ?_; rintro e w3 ⟨rfl, be⟩; have J3 := hide (J2.out.next be); have r3 := hide (J3.out.at (g := g) (t := 30) (c := bn X) (by simp)); clear be) | refine wpList_storeA AN rfl _ _ rfl _ (bn V) (bn_size _) (bn_one _) rfl rfl (bn X) (bn_size _) 30 r3.out ?_)
    have J4 : Hid (Rc w (w3.setRow g (bn V)) [(g, 30, bn V)]) := (Rc.mk (fun p hp => absurd hp (by simp)) (below_setRow J3.out.bel hgl.out _)).cons (setRow_heap _ _ _ _ _ _ r3.out)
    generalize w3.setRow g (bn V) = W4 at *
    clear J1 J2 J3 r3 rX HTi HOv
    try simp only [Act.put]
    obtain ⟨I, hne, F, i0, h0, hJ, hcl⟩ := J4.out.cls
    refine wp_region_class_lit (by kernel_rfl) (by kernel_rfl) i0 h0 ?_
    repeat (first | ((go_big_quiet_want; refine quiet_loadA AN _ (by rfl) g (by rfl) (bn V) (bn_size _) 30 (Rc.of hJ (by simp)) ?_); go_big_quiet_on; simp only [Act.put, List.setIfInBounds_toArray, List.set_cons_succ, List.set_cons_zero]) | go_big_quiet_step (first | (go_at_call 16; exact class_of hcl.out (HL.out _)) | (go_at_call 18; exact class_of hcl.out (HLs.out _))))
    refine wpQuiet_nil ?_
    rintro _ ⟨iq, rfl⟩
    have J5 := hide (hJ.out iq)
    clear hJ hcl h0 HLs
    generalize F iq = W5 at *
    have r5 := hide (J5.out.at (g := g) (t := 30) (c := bn V) (by simp))
    cases lt
    · simp only [Bool.false_eq_true, if_false] at HCp
      cases vz
      · simp only [Bool.false_eq_true, if_false] at HCp
        go_wp2_with (first | refine wpList_loadA AN rfl _ rfl g rfl (bn V) (bn_size _) 30 r5.out ?_ | (go_at_call 17; refine (HVZ.out _).mono ?_; rintro e w6 ⟨rfl, be⟩; have J6 := hide (J5.out.next be); have r6 := hide (J6.out.at (g := g) (t := 30) (c := bn V) (by simp)); clear be) | refine wpList_loadA AN rfl _ rfl g rfl (bn V) (bn_size _) 30 r6.out ?_ | (go_at_call 14; refine (HCp.out _).mono ?_; rintro e w7 ⟨rfl, be⟩; have K7 := hide (below_next J6.out.bel be); clear be))
        go_ret2
        exact ⟨rfl, K7.out⟩
      · simp only [if_true] at HCp
        have hV0 := hVz.out rfl
        subst hV0
        go_upto_region 16 with (first | refine wpList_loadA AN rfl _ rfl g rfl (bn 0) (bn_size _) 30 r5.out ?_ | (go_at_call 17; refine (HVZ.out _).mono ?_; rintro e w6 ⟨rfl, be⟩; have J6 := hide (J5.out.next be); have r6 := hide (J6.out.at (g := g) (t := 30) (c := bn 0) (by simp)); clear be))
        have NI : Hid (Ni w6 g 30 40 (dg 256 0)) := Ni.of_heap r6.out
        have cc := NI.out.cell (show 0 < 40 by omega)
        have cf := NI.out.fz 0
        have r7 : Hid ((w6.setCell ⟨g, 0, none⟩ (.int .i64 1)).heap[g]? = some (.cells (bn 1) 30 (0, 0))) := ((NI.out.set 0 1).congr bn_one1).heap
        have K7 : Hid (Below w.heap.size w (w6.setCell ⟨g, 0, none⟩ (.int .i64 1))) := J6.out.bel.setCell hgl.out _
        go_wp2_with (first | refine wpList_loadA AN rfl _ rfl g rfl (bn 1) (bn_size _) 30 r7.out ?_ | (go_at_call 14; refine (HCp.out _).mono ?_; rintro e w8 ⟨rfl, be⟩; have K8 := hide (below_next K7.out be); clear be))
        go_ret2
        exact ⟨rfl, K8.out⟩
    · simp only [if_true] at HCp
      go_wp2_with (first | (go_at_call 16; refine (HL.out _).mono ?_; rintro e w6 ⟨rfl, be⟩; have J6 := hide (J5.out.next be); have r6 := hide (J6.out.at (g := g) (t := 30) (c := bn V) (by simp)); have r7 := hide (setRow_heap w6 g (bn V) (bn L) 30 (0, 0) r6.out); have K7 := hide (below_setRow J6.out.bel hgl.out (bn L)); clear be) | refine wpList_storeA AN rfl _ _ rfl _ (bn L) (bn_size _) (bn_one _) rfl rfl (bn V) (bn_size _) 30 r6.out ?_ | refine wpList_loadA AN rfl _ rfl g rfl (bn L) (bn_size _) 30 r7.out ?_ | (go_at_call 17; refine (HLZ.out _).mono ?_; rintro e w8 ⟨rfl, be⟩; have r8 := hide ((be.block _ (lt_heap r7.out)).trans r7.out); have K8 := hide (below_next K7.out be); clear be) | refine wpList_loadA AN rfl _ rfl g rfl (bn L) (bn_size _) 30 r8.out ?_ | (go_at_call 14; refine (HCp.out _).mono ?_; rintro e w9 ⟨rfl, be⟩; have K9 := hide (below_next K8.out be); clear be))
      go_ret2
      exact ⟨rfl, K9.out⟩
end
end Go.Proofs.Ytjbiiiblnkpddaa
