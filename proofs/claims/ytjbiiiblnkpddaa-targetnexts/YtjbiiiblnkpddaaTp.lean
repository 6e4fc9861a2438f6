/- The contract of target.Next. -/
import Derived.Test.YtjbiiiblnkpddaaTo
import Derived.Test.YtjbiiiblnkpddaaTh
import Derived.Test.YtjbiiiblnkpddaaTd
namespace Go.Proofs.Ytjbiiiblnkpddaa
open Go.RowKit
open Go.Deep
/-- The next target. -/
def nxt (x s : Nat) : Nat := max 1 (min (x * s / 480) Lm)
theorem nxt_M (x s : Nat) : nxt x s < M := by
  have := Lm_M
  have h1 : 1 < M := by decide +kernel
  unfold nxt
  omega
theorem Rs.nilZ (w : World) : Rs w w [] := ⟨fun p hp => absurd hp (by simp), Below.refl _ _⟩
theorem Rs.noneZ {w W : World} {l : List (Nat × TypeId × Nat)} (j : Rs w W l) : Rs w W [] := ⟨fun p hp => absurd hp (by simp), j.bel⟩
attribute [local go_sem ↓] ldW_eq svW_eq
section
set_option maxRecDepth 10000
set_option maxHeartbeats 8000000
theorem next_no (b f l : Nat) (hb : b < 4294967296) (h : okB b = false) (w : World) : Calls Try.prog 27 #[.int .u32 (b : Int), .int .u32 (f : Int), .int .u32 (l : Int)] w fun e w' => e = .returned (.tuple #[.int .u32 0, .int .i64 50]) ∧ Below w.heap.size w w' := by
  have HE := hide fun W => expand_no b hb h W
  clear hb h
  go_enter Try.func27, Try.ntmps27
  go_wp2_with (first | (go_at_call 7; refine (HE.out _).mono ?_; rintro e w1 ⟨rfl, be⟩; have K1 := hide (below_next be (below_allocZ w1 (.cells (wn 0) 25))); clear be) | refine wpList_allocA AW rfl rfl ?_ | refine wpList_store_newA AW rfl _ _ rfl _ rfl (wn 0) (wn_size _) (wn_one _) rfl rfl ?_)
  go_ret2
  exact ⟨rfl, K1.out⟩
theorem next_yes (b f l : Nat) (hb : b < 4294967296) (hf : f < 4294967296) (hl : l < 4294967296) (h : okB b = true) (w : World) : Calls Try.prog 27 #[.int .u32 (b : Int), .int .u32 (f : Int), .int .u32 (l : Int)] w fun e w' => e = .returned (.tuple #[.int .u32 ((cpt (nxt (tgt b) (spn f l)) : Nat) : Int), .int .i64 0]) ∧ Below w.heap.size w w' := by
  have HE := hide fun W => expand_yes b hb h W
  have hT := ((okB_iff b).1 h).2.2
  obtain ⟨s1, s2⟩ := spn_in f l
  have HSp := hide fun W => realSpan_any f l hf hl W
  have HSt := hide fun W => stretch_any (tgt b) (spn f l) hT s2 W
  rw [← wn_mod (tgt b * spn f l / 480)] at HSt
  have HL := hide fun W => limit_any W
  have hv := Nat.mod_lt (tgt b * spn f l / 480) M_pos
  have HC := hide fun W => compare_any _ _ hv Lm_M W
  have HF : Hid (∀ W, Calls Try.prog 41 #[.int .u64 1] W fun e w' => e = .returned (.agg (wn 1)) ∧ Below W.heap.size W w') := fun W => from_any 1 (by decide) W
  have HCp := hide fun W => compact_any _ (nxt_M (tgt b) (spn f l)) W
  have HLZ := hide fun W => zero_any Lm Lm_M W
  rw [show decide (Lm = 0) = false by decide +kernel] at HLZ
  have HVZ := hide fun W => zero_any _ hv W
  have hn : nxt (tgt b) (spn f l) = if decide (M ≤ tgt b * spn f l / 480) || decide (0 < cmpZ (tgt b * spn f l / 480 % M) Lm) then Lm else if decide (tgt b * spn f l / 480 % M = 0) then 1 else tgt b * spn f l / 480 % M := by
    have hL := Lm_M
    have hL0 : 0 < Lm := by decide +kernel
    unfold nxt
    generalize tgt b * spn f l / 480 = V at *
    simp only [cmp_gt, Bool.or_eq_true, decide_eq_true_eq]
    rcases Nat.lt_or_ge V M with hlt | hge
    · rw [Nat.mod_eq_of_lt hlt]
      split
      · omega
      · split <;> omega
    · rw [if_pos (.inl hge)]
      omega
  rw [hn] at HCp ⊢
  have J0 := hide (Rs.nilZ w)
  obtain ⟨z, hz⟩ : ∃ z, decide (0 < cmpZ (tgt b * spn f l / 480 % M) Lm) = z := ⟨_, rfl⟩
  rw [hz] at HCp ⊢
  generalize hov : decide (M ≤ tgt b * spn f l / 480) = ov at *
  generalize hvz : decide (tgt b * spn f l / 480 % M = 0) = vz at *
  generalize tgt b * spn f l / 480 % M = V at *
  generalize spn f l = s at *
  generalize tgt b = X at *
  generalize Lm = L at *
  generalize cmpZ V L = c at *
  clear hb hf hl h hT s1 s2 hv hn hov hvz
  generalize cpt (if (ov || z) = true then L else if vz = true then 1 else V) = C at *
  go_enter Try.func27, Try.ntmps27
  go_upto_region 4 with (first | (go_at_call 7; refine (HE.out _).mono ?_; rintro e w1 ⟨rfl, be⟩; have J1 := hide ((J0.out.next be).new 25 X); clear be) | refine wpList_allocA AW rfl rfl ?_ | refine wpList_store_newA AW rfl _ _ rfl _ rfl (wn X) (wn_size _) (wn_one _) rfl rfl ?_)
  generalize w1.alloc (.cells (wn X) 25) = W1 at *
  generalize w1.heap.size = g8 at *
  have rX := hide (J1.out.at (g := g8) (t := 25) (n := X) (by simp))
  go_cut [10, 11] from 20 to 27 (fun s10 s11 wx => ∃ g, s10 = .pointer (some ⟨g, 0, none⟩) ∧ s11 = .bool ov ∧ Hid (Rs w wx [(g, 25, V)]) ∧ w.heap.size ≤ g)
  case first =>
    have hwl := hide (show w.heap.size ≤ W1.heap.size from J1.out.bel.size)
    go_region_held3 (fun w' => Below W1.heap.size W1 w' ∧ (ldW (.pointer (some ⟨g8, 0, none⟩))).run Try.prog w' = .ok (.agg (wn X)) w') (first | exact (fun hb => ⟨hb, ldB rX.out hb⟩) ((Below.refl _ _).drew) | exact (fun hb => ⟨hb, ldB rX.out hb⟩) (below_next (And.left (by assumption)) be) | exact (fun hb => ⟨hb, ldB rX.out hb⟩) (bel_alloc (And.left (by assumption)) _) | exact (fun hb => ⟨hb, ldB rX.out hb⟩) (bel_put (And.left (by assumption)) (by first | exact Nat.le_refl _ | exact sz1.out | exact sz2.out) _)) (first | (go_at_call 40; refine (HSp.out _).mono ?_; rintro e w1 ⟨rfl, be⟩; have sz1 : Hid (W1.heap.size ≤ w1.heap.size) := bel_size (below_next (And.left (by assumption)) be); (try have z1 := hide (zero_kept_drew be)); (try have z1 := hide (zero_kept be))) | (go_at_call 39; refine (HSt.out _).mono ?_; rintro e w2 ⟨rfl, be⟩; have sz2 : Hid (W1.heap.size ≤ w2.heap.size) := bel_size (below_next (And.left (by assumption)) be); (try have z2 := hide (row_kept z1.out be)); (try have z2 := hide (zero_kept be)); (first | have s1 := svW_row z2.out V | have s1 := svW_new w2 V)))
    all_goals (go_wp2_with fail; go_meet; first | exact ⟨_, rfl, rfl, ⟨(Rs.noneZ (J1.out.next (And.left (by assumption)))).cons (row_new _ _), Nat.le_trans hwl.out sz2.out⟩⟩ | exact ⟨_, rfl, rfl, ⟨(Rs.noneZ (J1.out.next (And.left (by assumption)))).cons (setRow_heap _ _ _ _ _ _ z2.out), by first | exact hwl.out | exact Nat.le_trans hwl.out sz1.out | exact Nat.le_trans hwl.out sz2.out⟩⟩)
  obtain ⟨g, rfl, rfl, J2, hgl⟩ := hcut
  generalize wc = W2 at *
  clear J1 rX HE HSp HSt J0
  have hcs : (ov = true ∨ (ov = false ∧ z = true)) ∨ (ov = false ∧ z = false) := by cases ov <;> cases z <;> simp
  obtain ⟨I, hne, F, i0, h0, hJ, hcl⟩ := J2.out.cls
  go_upto_region 5 with fail
  rcases hcs with (rfl | ⟨rfl, rfl⟩) | ⟨rfl, rfl⟩
  all_goals
    refine wp_region_class_lit (by kernel_rfl) (by kernel_rfl) i0 h0 ?_
    repeat (first | ((go_big_quiet_want; refine quiet_loadA AW _ (by rfl) g (by rfl) (wn V) (wn_size _) 25 (Rs.of hJ (by simp)) ?_); go_big_quiet_on; simp only [Act.put, List.setIfInBounds_toArray, List.set_cons_succ, List.set_cons_zero]) | go_big_quiet_step (first | (go_at_call 15; exact class_of hcl.out (HL.out _)) | (go_at_call 31; exact class_of hcl.out (HC.out _))))
    refine wpQuiet_nil ?_
    rintro _ ⟨iq, rfl⟩
    have J3 := hide (hJ.out iq)
    clear hJ hcl h0 HC
    generalize F iq = W3 at *
    have r3 := hide (J3.out.at (g := g) (t := 25) (n := V) (by simp))
  iterate 2
    · simp only [Bool.true_or, Bool.or_true, if_true] at HCp
      go_wp2_with (first | (go_at_call 15; refine (HL.out _).mono ?_; rintro e w4 ⟨rfl, be⟩; have J4 := hide (J3.out.next be); have r4 := hide (J4.out.at (g := g) (t := 25) (n := V) (by simp)); have r5 := hide (setRow_heap w4 g (wn V) (wn L) 25 (0, 0) r4.out); have K5 := hide (below_setRow J4.out.bel hgl (wn L)); clear be) | refine wpList_storeA AW rfl _ _ rfl _ (wn L) (wn_size _) (wn_one _) rfl rfl (wn V) (wn_size _) 25 r4.out ?_ | refine wpList_loadA AW rfl _ rfl g rfl (wn L) (wn_size _) 25 r5.out ?_ | (go_at_call 30; refine (HLZ.out _).mono ?_; rintro e w6 ⟨rfl, be⟩; have r6 := hide ((be.block _ (lt_heap r5.out)).trans r5.out); have K6 := hide (below_next K5.out be); clear be) | refine wpList_loadA AW rfl _ rfl g rfl (wn L) (wn_size _) 25 r6.out ?_ | (go_at_call 10; refine (HCp.out _).mono ?_; rintro e w7 ⟨rfl, be⟩; have K7 := hide (below_next K6.out be); clear be))
      go_ret2
      exact ⟨rfl, K7.out⟩
  · simp only [Bool.or_false, Bool.false_eq_true, if_false] at HCp
    cases vz
    · simp only [Bool.false_eq_true, if_false] at HCp
      go_wp2_with (first | refine wpList_loadA AW rfl _ rfl g rfl (wn V) (wn_size _) 25 r3.out ?_ | (go_at_call 30; refine (HVZ.out _).mono ?_; rintro e w6 ⟨rfl, be⟩; have J6 := hide (J3.out.next be); have r6 := hide (J6.out.at (g := g) (t := 25) (n := V) (by simp)); clear be) | refine wpList_loadA AW rfl _ rfl g rfl (wn V) (wn_size _) 25 r6.out ?_ | (go_at_call 10; refine (HCp.out _).mono ?_; rintro e w7 ⟨rfl, be⟩; have K7 := hide (below_next J6.out.bel be); clear be))
      go_ret2
      exact ⟨rfl, K7.out⟩
    · simp only [if_true] at HCp
      go_wp2_with (first | refine wpList_loadA AW rfl _ rfl g rfl (wn V) (wn_size _) 25 r3.out ?_ | (go_at_call 30; refine (HVZ.out _).mono ?_; rintro e w6 ⟨rfl, be⟩; have J6 := hide (J3.out.next be); clear be) | (go_at_call 41; refine (HF.out _).mono ?_; rintro e w4 ⟨rfl, be⟩; have J4 := hide (J6.out.next be); have r4 := hide (J4.out.at (g := g) (t := 25) (n := V) (by simp)); have r5 := hide (setRow_heap w4 g (wn V) (wn 1) 25 (0, 0) r4.out); have K5 := hide (below_setRow J4.out.bel hgl (wn 1)); clear be) | refine wpList_storeA AW rfl _ _ rfl _ (wn 1) (wn_size _) (wn_one _) rfl rfl (wn V) (wn_size _) 25 r4.out ?_ | refine wpList_loadA AW rfl _ rfl g rfl (wn 1) (wn_size _) 25 r5.out ?_ | (go_at_call 10; refine (HCp.out _).mono ?_; rintro e w7 ⟨rfl, be⟩; have K7 := hide (below_next K5.out be); clear be))
      go_ret2
      exact ⟨rfl, K7.out⟩
end
end Go.Proofs.Ytjbiiiblnkpddaa
