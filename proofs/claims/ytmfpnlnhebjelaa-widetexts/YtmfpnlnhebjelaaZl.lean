/- The contract of the document's Div: its walk. -/
import Derived.Test.YtmfpnlnhebjelaaZk
namespace Go.Proofs.Ytmfpnlnhebjelaa
open Go.RowKit
open Go.Deep
theorem cmp_ge (m n : Nat) : (0 ≤ cmpZ m n) = (n ≤ m) := by
  apply propext
  unfold cmpZ
  split
  · simp; omega
  · split <;> simp <;> omega
theorem wn_big (V d : Nat) (h1 : d ≤ V) : wn (df (V % M) d) = wn (V - d) ∨ M < d := by
  rcases Nat.lt_or_ge M d with h | h
  · exact .inr h
  · left
    rw [← wn_mod (df (V % M) d), ← wn_mod (V - d)]
    congr 1
    unfold df
    have hm := Nat.div_add_mod V M
    have e : V - d + M = V % M + M - d + M * (V / M) := by omega
    rw [show V % M + M - d = V % M + M - d from rfl, ← Nat.add_mod_right (V - d) M, e, Nat.add_mul_mod_self_left]
attribute [local go_sem ↓] ldR_eq svR_eq
section
set_option maxRecDepth 10000
set_option maxHeartbeats 4000000
theorem rdiv_any (m d : Nat) (hm : m < M) (h0 : 0 < d) (hd : d < M) (w : World) : Calls Try.prog 40 #[.agg (wn m), .agg (wn d)] w fun e w' => e = .returned (.tuple #[.agg (wn (m / d)), .agg (wn (m % d))]) ∧ Below w.heap.size w w' := by
  have J0 : Hid (Dv w ((((((((w.alloc (.cells (wn m) 23)).alloc (.cells (wn d) 23)).alloc (.cells (wn 0) 23)).alloc (.cells (wn 0) 23)).alloc (.cells (wn 0) 23)).alloc (.cells (wn 0) 23)).setRow (w.heap.size + 1 + 1 + 1 + 1) (wn 0)).setRow (w.heap.size + 1 + 1 + 1 + 1 + 1) (wn 0)) 23 m d (dq m d 256) (dr m d 256)) := by
    unfold Hid
    rw [(dr_start m d hm).1, (dr_start m d hm).2]
    exact blk6w w 23 m d
  have HM := hide (And.intro hm (And.intro h0 hd))
  clear hm h0 hd
  go_enter Try.func40, Try.ntmps40
  go_upto_region 1 with (first | refine wpList_boxA rfl _ rfl (wn m) rfl ?_ | refine wpList_boxA rfl _ rfl (wn d) rfl ?_ | refine wpList_allocA AR rfl rfl ?_)
  simp only [Act.put, List.setIfInBounds_toArray, List.set_cons_succ, List.set_cons_zero, hsz]
  have hw4 : ((((w.alloc (.cells (wn m) 23)).alloc (.cells (wn d) 23)).alloc (.cells (wn 0) 23)).alloc (.cells (wn 0) 23)).heap.size = w.heap.size + 1 + 1 + 1 + 1 := by simp
  have HW4 := hide hw4
  clear hw4
  generalize (((w.alloc (.cells (wn m) 23)).alloc (.cells (wn d) 23)).alloc (.cells (wn 0) 23)).alloc (.cells (wn 0) 23) = W0 at *
  go_upto_region 2 with (first | refine wpList_buildA AR rfl rfl ?_ | refine wpList_allocA AR rfl rfl ?_ | refine wpList_storeA AR rfl _ _ rfl _ (wn 0) (wn_size _) (wn_one _) rfl rfl (wn 0) (wn_size _) 23 (blk2x W0 (.cells (wn 0) 23) (.cells (wn 0) 23)).1 ?_ | refine wpList_storeA AR rfl _ _ rfl _ (wn 0) (wn_size _) (wn_one _) rfl rfl (wn 0) (wn_size _) 23 (blk2s W0 (.cells (wn 0) 23) (.cells (wn 0) 23) (wn 0)) ?_)
  simp only [Act.put, List.setIfInBounds_toArray, List.set_cons_succ, List.set_cons_zero, hsz, HW4.out]
  generalize (((W0.alloc (.cells (wn 0) 23)).alloc (.cells (wn 0) 23)).setRow (w.heap.size + 1 + 1 + 1 + 1) (wn 0)).setRow (w.heap.size + 1 + 1 + 1 + 1 + 1) (wn 0) = W1 at *
  go_wp2
  go_loopw [8, 9] (fun c _ wr => ∃ n : Nat, n ≤ 256 ∧ c = .int .i64 ((n : Int) - 1) ∧ Hid (Dv w wr 23 m d (dq m d n) (dr m d n))) (fun c _ _ => (1 + intOf c).toNat)
  case atStart => exact ⟨256, by omega, rfl, J0⟩
  case round =>
    clear J0 HW4
    obtain ⟨n, hn, rfl, J⟩ := hrel
    rcases n with _ | k
    · have t1 : ¬ (0 : Int) ≤ ((0 : Nat) : Int) - 1 := by omega
      rw [(dr_end m d).1, (dr_end m d).2] at J
      generalize hQ : m / d = Q at *
      generalize hR : m % d = R at *
      have HF := hide (And.intro hQ hR)
      clear hQ hR
      have l1 := ldR_row (W := wr.drew) J.out.q.heap
      have l2 := ldR_row (W := wr.drew) J.out.r.heap
      have s1 := svR_row (w := wr.drew) J.out.r1 Q
      have l3 := ldR_row (W := wr.drew.setRow (w.heap.size + 1 + 1) (wn Q)) (g := w.heap.size + 1 + 1 + 1 + 1 + 1) ((setRow_other _ _ _ _ (by omega)).trans J.out.r.heap)
      have s2 := svR_row (w := wr.drew.setRow (w.heap.size + 1 + 1) (wn Q)) ((setRow_other _ _ _ _ (by omega)).trans J.out.r2) R
      go_upto_region 12 with fail
      go_region
      go_wp2
      exact bodyPost_ret (v := .tuple #[.agg (wn Q), .agg (wn R)]) (resAA AR Try.results40 _ _ (w.heap.size + 1 + 1) (w.heap.size + 1 + 1 + 1) 23 (wn Q) (wn R) (wn_size _) (wn_size _) rfl (J.out.drew.two _ _).1 rfl (J.out.drew.two _ _).2.1) rfl ⟨by rw [HF.out.1, HF.out.2], (J.out.drew.two _ _).2.2⟩
    · have e1 : ((k + 1 : Nat) : Int) - 1 = k := by omega
      have k0 : (0 : Int) ≤ k := by omega
      rw [e1]
      have hkw : IntKind.i64.wrap ((k : Int) - 1) = k - 1 := wrapI _ (by omega) (by omega)
      have KK := hide (show k ≤ 256 by omega)
      obtain ⟨hm, h0, hd⟩ := HM.out
      have hr := dr_lt m d (k + 1) h0
      have hrM : dr m d (k + 1) < M := by omega
      have DN := hide (div_next m d k h0)
      obtain ⟨q, rr, p, s, PF⟩ := put_facts (dq m d (k + 1)) k (by omega) (dq_bit m d k)
      have HA := hide fun W => radd_any _ _ hrM hrM W
      have HB := hide fun W => rbit_in m k (by omega) W
      have OW := hide (odd_word (dr m d (k + 1)))
      have hdv : dv m d k = 2 * dr m d (k + 1) + if m.testBit k then 1 else 0 := rfl
      have TB := top_bit _ hrM
      rw [show dr m d (k + 1) + dr m d (k + 1) = 2 * dr m d (k + 1) by omega] at HA
      have HDV : Hid (wn (dv m d k) = wn (dv m d k % M)) := (wn_mod _).symm
      have PFh := hide PF.all
      have d1 := PF.d1
      have d2 := PF.d2
      have q0 := PF.q0
      have q4 := PF.q4
      have r0 := PF.r0
      have r6 := PF.r6
      have shl := PF.shl
      have sum := PF.sum
      have Q4 := hide PF.q4n
      clear PF e1 hn
      have NX : Hid (∀ V, (V = dv m d k) → (V < d → dr m d k = V ∧ dq m d k = dq m d (k + 1)) ∧ (¬ V < d → dr m d k = V - d ∧ dq m d k = dq m d (k + 1) + 2 ^ k) ∧ V < 2 * d) := fun V h => by rw [h]; exact ⟨DN.out.2.1, DN.out.2.2, DN.out.1⟩
      generalize hR : dr m d (k + 1) = r at *
      generalize hQ : dq m d (k + 1) = Q at *
      obtain ⟨Q1, hQ1⟩ : ∃ x, x = Q + 2 ^ k := ⟨_, rfl⟩
      rw [← hQ1] at PFh NX
      have HV := hide hdv
      clear hR hQ hQ1 DN HDV hdv hr
      have c3 := J.out.r.cell (show 3 < 4 by omega)
      have HTB := hide TB
      generalize hX : ((wd r 3 : Nat) : Int) = X at *
      have HX := hide hX
      clear hX TB
      obtain ⟨ov, hov⟩ : ∃ ov : Bool, decide (9223372036854775808 ≤ X) = ov := ⟨_, rfl⟩
      have ra := hide J.out.r.heap
      go_upto_region 7 with (first | refine wpList_loadA AR rfl _ rfl _ rfl (wn r) (wn_size _) 23 ra.out ?_ | (go_at_call 44; refine (HA.out _).mono ?_; rintro e w1 ⟨rfl, be⟩; have J1 := hide (J.out.next be); have r1 := hide J1.out.r.heap; clear be) | refine wpList_storeA AR rfl _ _ rfl _ (wn (2 * r)) (wn_size _) (wn_one _) rfl rfl (wn r) (wn_size _) 23 r1.out ?_)
      have J2 := hide (J1.out.put (2 * r))
      generalize w1.setRow (w.heap.size + 1 + 1 + 1 + 1 + 1) (wn (2 * r)) = W2 at *
      generalize decide (M ≤ 2 * r) = ovx at *
      have HOV : Hid ((ov = true → M ≤ 2 * r) ∧ (ov = false → 2 * r < M)) := by
        rw [← hov, ← HX.out]
        refine ⟨fun h => HTB.out.1 ?_, fun h => ?_⟩
        · have := of_decide_eq_true h
          omega
        · have := of_decide_eq_false h
          have h2 : ¬ M ≤ 2 * r := fun h3 => this (by have := HTB.out.2 h3; omega)
          omega
      clear J J1 r1 ra c3 HA HTB HX hov
      have am := hide J2.out.a
      cases hb : m.testBit k
      case' false =>
        rw [hb] at HB HV
        clear hb
        go_upto_region 9 with (first | refine wpList_loadA AR rfl _ rfl _ rfl (wn m) (wn_size _) 23 am.out ?_ | (go_at_call 54; refine (HB.out _).mono ?_; rintro e w3 ⟨rfl, be⟩; have J3 := hide (J2.out.next be); clear be))
        have HE : Hid (∃ V, V = dv m d k ∧ Dv w w3 23 m d Q (V % M) ∧ (ov = true → M ≤ V) ∧ (ov = false → V < M)) := ⟨2 * r, by rw [HV.out]; rfl, J3.out.congr _ (wn_mod _).symm, HOV.out.1, HOV.out.2⟩
        clear J2 J3 am HB HOV OW HV
        generalize w3 = W3 at *
      case' true =>
        rw [hb] at HB HV
        clear hb
        obtain ⟨ow1, ow2⟩ := OW.out
        have hw0 : IntKind.u64.wrap (((wd (2 * r) 0 : Nat) : Int) + 1) = ((wd (2 * r) 0 + 1 : Nat) : Int) := by
          rw [wrapu _ (by omega) (by omega)]
          omega
        have OW2 := hide ow2
        clear ow1 ow2 OW
        generalize hx0 : wd (2 * r) 0 + 1 = x0 at *
        clear hx0
        go_upto_region 8 with (first | refine wpList_loadA AR rfl _ rfl _ rfl (wn m) (wn_size _) 23 am.out ?_ | (go_at_call 54; refine (HB.out _).mono ?_; rintro e w3 ⟨rfl, be⟩; have J3 := hide (J2.out.next be); clear be))
        have c0 := J3.out.r.cell (show 0 < 4 by omega)
        have f0 := J3.out.r.fz 0
        go_upto_region 9 with fail
        have J4 := hide (J3.out.setr 0 x0 (2 * r + 1) OW2.out)
        generalize w3.setCell ⟨w.heap.size + 1 + 1 + 1 + 1 + 1, 0, none⟩ (.int .u64 (x0 : Int)) = W3 at *
        have HE : Hid (∃ V, V = dv m d k ∧ Dv w W3 23 m d Q (V % M) ∧ (ov = true → M ≤ V) ∧ (ov = false → V < M)) := ⟨2 * r + 1, by rw [HV.out]; rfl, J4.out.congr _ (wn_mod _).symm, fun h => by have := HOV.out.1 h; omega, fun h => by have := HOV.out.2 h; unfold M at *; omega⟩
        clear J2 J3 J4 am HB HOV OW2 HV c0 f0 hw0
      all_goals
        obtain ⟨V, hV, K3, ov1, ov2⟩ := HE.out
        have J3 := hide K3
        obtain ⟨nx1, nx2, nx3⟩ := NX.out V hV
        have NX1 := hide nx1
        have NX2 := hide nx2
        have hVM := Nat.mod_lt V M_pos
        have HC := hide fun W => rcompare_any _ _ hVM hd W
        have HS := hide fun W => rsub_any _ _ hVM hd W
        have HBg := hide (wn_big V d)
        have hlow : V < M → V % M = V := fun h => Nat.mod_eq_of_lt h
        have HLow := hide hlow
        have MD := hide hd
        clear HE K3 NX nx1 nx2 nx3 hV hm h0 hd hrM hVM hlow
        have br := hide J3.out.r.heap
        have bb := hide J3.out.b
        by_cases hge : d ≤ V
        · obtain ⟨n1, n2⟩ := NX2.out (by omega)
          have hS2 : wn (df (V % M) d) = wn (V - d) := by
            rcases HBg.out hge with h | h
            · exact h
            · exact absurd MD.out (by omega)
          rw [hS2] at HS
          have N1 := hide (And.intro n1 n2)
          have HCG : Hid (ov = false → 0 ≤ cmpZ (V % M) d) := fun h => by rw [cmp_ge, HLow.out (ov2 h)]; exact hge
          clear n1 n2 hS2 HBg NX1 NX2 hge HLow ov1 ov2
          generalize V - d = D at *
          generalize V % M = X2 at *
          generalize decide (X2 < d) = ltx at *
          generalize cmpZ X2 d = z at *
          cases ov
          case' false =>
            have hz := HCG.out rfl
            go_upto_region 11 with (first | refine wpList_loadW AR rfl _ rfl _ rfl (wn X2) (wn_size _) 23 br.out ?_ | refine wpList_loadW AR rfl _ rfl _ rfl (wn d) (wn_size _) 23 bb.out ?_ | (go_at_call 55; refine (HC.out _).mono ?_; rintro e w5 ⟨rfl, be⟩; have J5 := hide (J3.out.next be); have br5 := hide J5.out.r.heap; have bb5 := hide J5.out.b; clear be) | refine wpList_loadA AR rfl _ rfl _ rfl (wn X2) (wn_size _) 23 br5.out ?_ | refine wpList_loadA AR rfl _ rfl _ rfl (wn d) (wn_size _) 23 bb5.out ?_ | (go_at_call 56; refine (HS.out _).mono ?_; rintro e w6 ⟨rfl, be⟩; have J6 := hide (J5.out.next be); have br6 := hide J6.out.r.heap; clear be) | refine wpList_storeA AR rfl _ _ rfl _ (wn D) (wn_size _) (wn_one _) rfl rfl (wn X2) (wn_size _) 23 br6.out ?_)
            clear br5 bb5 J5 hz
          case' true =>
            go_upto_region 11 with (first | refine wpList_loadA AR rfl _ rfl _ rfl (wn X2) (wn_size _) 23 br.out ?_ | refine wpList_loadA AR rfl _ rfl _ rfl (wn d) (wn_size _) 23 bb.out ?_ | (go_at_call 56; refine (HS.out _).mono ?_; rintro e w6 ⟨rfl, be⟩; have J6 := hide (J3.out.next be); have br6 := hide J6.out.r.heap; clear be) | refine wpList_storeA AR rfl _ _ rfl _ (wn D) (wn_size _) (wn_one _) rfl rfl (wn X2) (wn_size _) 23 br6.out ?_)
          all_goals
            have J7 := hide (J6.out.put D)
            generalize w6.setRow (w.heap.size + 1 + 1 + 1 + 1 + 1) (wn D) = W7 at *
            have cq := J7.out.q.cell Q4.out
            have fq := J7.out.q.fz q
            clear J6 br6 J3 br bb HC HS HCG
            simp only [Act.put]
            go_region
            go_wp2
            have L4 := KK.out
            exact ⟨⟨k, KK.out, rfl, hide (by rw [N1.out.1, N1.out.2]; exact (J7.out.setq q s Q1 PFh.out).drew)⟩, by simp [intOf]; omega⟩
        · obtain ⟨n1, n2⟩ := NX1.out (by omega)
          have hov : ov = false := by
            cases ov with
            | false => rfl
            | true => exact absurd (ov1 rfl) (by have := MD.out; omega)
          subst hov
          have hVm := HLow.out (ov2 rfl)
          have hz : ¬ 0 ≤ cmpZ (V % M) d := by rw [cmp_ge, hVm]; exact hge
          have N1 := hide (And.intro (n1.trans hVm.symm) n2)
          clear n1 n2 HBg NX1 NX2 hge HLow ov1 ov2 hVm HS
          generalize V % M = X2 at *
          generalize cmpZ X2 d = z at *
          go_wp2_with (first | refine wpList_loadW AR rfl _ rfl _ rfl (wn X2) (wn_size _) 23 br.out ?_ | refine wpList_loadW AR rfl _ rfl _ rfl (wn d) (wn_size _) 23 bb.out ?_ | (go_at_call 55; refine (HC.out _).mono ?_; rintro e w5 ⟨rfl, be⟩; have J5 := hide (J3.out.next be); clear be))
          have L4 := KK.out
          exact ⟨⟨k, KK.out, rfl, hide (by rw [N1.out.1, N1.out.2]; exact J5.out)⟩, by simp [intOf]; omega⟩
end
end Go.Proofs.Ytmfpnlnhebjelaa
