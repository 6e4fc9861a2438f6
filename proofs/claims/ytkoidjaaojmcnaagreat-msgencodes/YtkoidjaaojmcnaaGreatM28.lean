/- The document's odd: is something in a message that may not be. -/
import Derived.Test.YtkoidjaaojmcnaaGreatM27
namespace Go.Proofs.YtkoidjaaojmcnaaGreat
open Go.RowKit
open Go.Deep
set_option linter.unusedVariables false
set_option linter.unusedSimpArgs false
def Mg.oddB (m : Mg) : Bool := m.heads.any (fun x : ByteArray => decide (x.size ≠ 80)) || ((decide (m.kind = 16) && decide (m.head.size ≠ 80)) || (m.shorts.any (fun x : UInt64 => decide (281474976710655 < x.toNat)) || (!(riseB (-1) (m.filled.map Fd.place)) || (!(riseB (-1) m.places) || !(decide (m = m.namedK))))))
section
set_option maxRecDepth 10000
set_option maxHeartbeats 8000000
theorem odd_any (m : Mg) (s : Vs) (w : World) (hR : MR w s m) (hf : m.fit) : Calls Tryz.prog 25 #[.agg (m.cells s).toArray] w fun e w' => e = .returned (.bool m.oddB) ∧ Below w.heap.size w w' := by
  have b1 : Below w.heap.size w (w.alloc (.cells (m.cells s).toArray 50)) := (Below.refl w.heap.size w).alloc (Nat.le_refl _) _
  have B1 := hide b1
  have RA := hide (heap_alloc_last w (.cells (m.cells s).toArray 50))
  have MC := hide (Mc.of (m := m) (s := s) RA.out)
  have XX := hide (hR.below b1)
  have FT := hide hf
  have HZ := hide (m.size s)
  obtain ⟨aoh, cah, eah⟩ := hR.hd.form
  obtain ⟨aos, cas, eas⟩ := hR.sh.form
  obtain ⟨aof, caf, eaf⟩ := hR.f.form
  obtain ⟨aop, cap, eap⟩ := hR.p.form
  have ch := MC.out.f16
  have cs := MC.out.f19
  have cf := MC.out.f20
  have cp := MC.out.f21
  have c0 := MC.out.f0
  have c17 := MC.out.f17
  rw [eah] at ch
  rw [eas] at cs
  rw [eaf] at cf
  rw [eap] at cp
  have XH := hide (eah ▸ XX.out.hd)
  have XS := hide (eas ▸ XX.out.sh)
  have XF := hide (eaf ▸ XX.out.f)
  have XP := hide (eap ▸ XX.out.p)
  have OD : Hid (m.oddB = m.oddB) := rfl
  clear b1 hR hf MC eah eas eaf eap
  go_enter Tryz.func25, Tryz.ntmps25
  go_upto_region 1 with (with_reducible refine at_list ?_; refine wpList_boxA rfl _ rfl (m.cells s).toArray rfl ?_)
  generalize w.alloc (.cells (m.cells s).toArray 50) = A at *
  go_wp2
  go_loopw [3] (fun i wq => ∃ k : Nat, k ≤ m.heads.length ∧ i = .int .i64 (k : Int) ∧ wq = A ∧ Hid ((m.heads.take k).any (fun x : ByteArray => decide (x.size ≠ 80)) = false)) (fun i _ => (m.heads.length - intOf i).toNat)
  case atStart => exact ⟨0, Nat.zero_le _, rfl, rfl, (by show List.any (List.take 0 _) _ = false; rfl)⟩
  case round =>
    obtain ⟨k, hk, rfl, rfl, J⟩ := hrel
    by_cases hlt : k < m.heads.length
    · have h1 : (k : Int) < (m.heads.length : Int) := by omega
      have h2 : (0 : Int) ≤ (k : Int) := by omega
      have h5 := FT.out.hd
      have e1 : IntKind.i64.wrap ((k : Int) + 1) = k + 1 := wrapI _ (by omega) (by omega)
      have KK := hide (And.intro (show k + 1 ≤ m.heads.length by omega) (show ((m.heads.length : Int) - ((k : Int) + 1)).toNat < ((m.heads.length : Int) - (k : Int)).toNat by omega))
      obtain ⟨ga, oa, rfl⟩ := XH.out.base (by omega)
      have hr := XH.out.range k hlt
      have AH := hide (any_here (fun x : ByteArray => decide (x.size ≠ 80)) m.heads k hlt)
      have AT := hide (fun h => any_take (fun x : ByteArray => decide (x.size ≠ 80)) m.heads k hlt J.out h)
      have cc : wr.cell? ⟨ga, oa + k, none⟩ = some (.string m.heads[k]) := by
        have := hr 0 _ rfl
        simpa [KS] using this
      generalize m.heads[k] = x at *
      clear hr hlt hk h5 J
      by_cases hq : x.size ≠ 80
      · have h3 : ((x.size : Int) != 80) = true := by simp; omega
        have AH2 := hide (AH.out (decide_eq_true hq))
        clear AT AH hq
        go_wp2
        go_ret
        exact ⟨by unfold Mg.oddB; rw [AH2.out]; simp, B1.out⟩
      · have h3 : (x.size : Int) = 80 := by omega
        have AT2 := hide (AT.out (decide_eq_false hq))
        clear AT AH hq
        go_wp2
        exact ⟨⟨k + 1, KK.out.1, by go_num, trivial, AT2⟩, by simpa [intOf] using KK.out.2⟩
    · have h1 : ¬ (k : Int) < (m.heads.length : Int) := by omega
      have AH : Hid (m.heads.any (fun x : ByteArray => decide (x.size ≠ 80)) = false) := by
        have := J.out
        rwa [List.take_of_length_le (by omega)] at this
      clear J hlt hk
      go_upto_region 6 with fail
      clear h1 ch XH
      by_cases hk16 : m.kind = 16 ∧ m.head.size ≠ 80
      · have A6 : Hid ((decide (m.kind = 16) && decide (m.head.size ≠ 80)) = true) := by show _ = _; rw [decide_eq_true hk16.1, decide_eq_true hk16.2]; rfl
        have g1 : (m.kind == 16) = true := by rw [hk16.1]; rfl
        have g2 : ((m.head.size : Int) != 80) = true := by have := hk16.2; simp; omega
        clear hk16
        go_wp2
        go_ret
        exact ⟨by unfold Mg.oddB; rw [AH.out, A6.out]; simp, B1.out⟩
      have A6 : Hid ((decide (m.kind = 16) && decide (m.head.size ≠ 80)) = false) := by
        show _ = _
        by_cases h : m.kind = 16
        · rw [decide_eq_false (p := m.head.size ≠ 80) (fun h2 => hk16 ⟨h, h2⟩), Bool.and_false]
        · rw [decide_eq_false h, Bool.false_and]
      have STEP : Hid ((m.kind == 16) = true ∧ (m.head.size : Int) = 80 ∨ (m.kind == 16) = false) := by
        by_cases h : m.kind = 16
        · exact .inl ⟨by rw [h]; rfl, by have : ¬ m.head.size ≠ 80 := fun h2 => hk16 ⟨h, h2⟩; omega⟩
        · exact .inr (by rw [beq_eq_false_iff_ne]; exact h)
      clear hk16
      go_cut [30] from 22 to 29 (fun s30 wx => s30 = .bool false ∧ wx = wr)
      case first =>
        rcases STEP.out with ⟨g1, g2⟩ | g1
        · go_wp2
          go_meet
          exact ⟨rfl, rfl⟩
        · go_wp2
          go_meet
          exact ⟨rfl, rfl⟩
      obtain ⟨rfl, rfl⟩ := hcut
      clear STEP c0 c17
      go_upto_region 8 with fail
      go_wp2
      go_loopw [4] (fun i wq => ∃ k : Nat, k ≤ m.shorts.length ∧ i = .int .i64 (k : Int) ∧ wq = wc ∧ Hid ((m.shorts.take k).any (fun x : UInt64 => decide (281474976710655 < x.toNat)) = false)) (fun i _ => (m.shorts.length - intOf i).toNat)
      case atStart => exact ⟨0, Nat.zero_le _, rfl, rfl, (by show List.any (List.take 0 _) _ = false; rfl)⟩
      case round =>
        obtain ⟨k, hk, rfl, rfl, J⟩ := hrel
        by_cases hlt : k < m.shorts.length
        · have h1 : (k : Int) < (m.shorts.length : Int) := by omega
          have h2 : (0 : Int) ≤ (k : Int) := by omega
          have h5 := FT.out.sh
          have e1 : IntKind.i64.wrap ((k : Int) + 1) = k + 1 := wrapI _ (by omega) (by omega)
          have KK := hide (And.intro (show k + 1 ≤ m.shorts.length by omega) (show ((m.shorts.length : Int) - ((k : Int) + 1)).toNat < ((m.shorts.length : Int) - (k : Int)).toNat by omega))
          obtain ⟨ga, oa, rfl⟩ := XS.out.base (by omega)
          have hr := XS.out.range k hlt
          have AH := hide (any_here (fun x : UInt64 => decide (281474976710655 < x.toNat)) m.shorts k hlt)
          have AT := hide (fun h => any_take (fun x : UInt64 => decide (281474976710655 < x.toNat)) m.shorts k hlt J.out h)
          have cc : wr.cell? ⟨ga, oa + k, none⟩ = some (.int .u64 (m.shorts[k].toNat : Int)) := by
            have := hr 0 _ rfl
            simpa [KU] using this
          generalize m.shorts[k] = x at *
          clear hr hlt hk h5 J
          by_cases hq : 281474976710655 < x.toNat
          · have h3 : (x.toNat : Int) ≥ 281474976710656 := by omega
            have AH2 := hide (AH.out (decide_eq_true hq))
            clear AT AH hq
            go_wp2
            go_ret
            exact ⟨by unfold Mg.oddB; rw [AH.out, A6.out, AH2.out]; simp, B1.out⟩
          · have h3 : ¬ (x.toNat : Int) ≥ 281474976710656 := by omega
            have AT2 := hide (AT.out (decide_eq_false hq))
            clear AT AH hq
            go_wp2
            exact ⟨⟨k + 1, KK.out.1, by go_num, trivial, AT2⟩, by simpa [intOf] using KK.out.2⟩
        · have h1 : ¬ (k : Int) < (m.shorts.length : Int) := by omega
          have AS : Hid (m.shorts.any (fun x : UInt64 => decide (281474976710655 < x.toNat)) = false) := by
            have := J.out
            rwa [List.take_of_length_le (by omega)] at this
          clear J hlt hk
          go_upto_region 13 with fail
          clear h1 cs XS
          go_wp2
          go_loopw [5, 6] (fun a i wq => ∃ k : Nat, k ≤ m.filled.length ∧ i = .int .i64 (k : Int) ∧ a = .int .i64 (lastP (-1) ((m.filled.map Fd.place).take k)) ∧ Hid (∀ j (h : j < m.filled.length), j < k → lastP (-1) ((m.filled.map Fd.place).take j) < m.filled[j].place ∧ m.filled[j].place ≤ 65535) ∧ wq = wr) (fun _ i _ => (m.filled.length - intOf i).toNat)
          case atStart => exact ⟨0, Nat.zero_le _, rfl, rfl, fun j _ h => absurd h (Nat.not_lt_zero _), rfl⟩
          case round =>
            obtain ⟨k, hk, rfl, rfl, J, rfl⟩ := hrel
            by_cases hlt : k < m.filled.length
            · have h1 : (k : Int) < (m.filled.length : Int) := by omega
              have h2 : (0 : Int) ≤ (k : Int) := by omega
              have h5 := FT.out.f
              have e1 : IntKind.i64.wrap ((k : Int) + 1) = k + 1 := wrapI _ (by omega) (by omega)
              have KK := hide (And.intro (show k + 1 ≤ m.filled.length by omega) (show ((m.filled.length : Int) - ((k : Int) + 1)).toNat < ((m.filled.length : Int) - (k : Int)).toNat by omega))
              obtain ⟨ga, oa, rfl⟩ := XF.out.base (by omega)
              have hr := XF.out.range k hlt
              have cc : wr.cell? ⟨ga, oa + k * 2, none⟩ = some (.int .i64 m.filled[k].place) := hr 0 _ rfl
              have RS := hide (rise_stop (m.filled.map Fd.place) (-1) k (by simpa using hlt))
              have LS := hide (lastP_snoc (-1) (m.filled.map Fd.place) k (by simpa using hlt))
              rw [List.getElem_map] at RS LS
              have JN : Hid ((lastP (-1) ((m.filled.map Fd.place).take k) < m.filled[k].place ∧ m.filled[k].place ≤ 65535) → ∀ j (h : j < m.filled.length), j < k + 1 → lastP (-1) ((m.filled.map Fd.place).take j) < m.filled[j].place ∧ m.filled[j].place ≤ 65535) := fun hq j hj hjk => by
                by_cases e : j = k
                · subst e; exact hq
                · exact J.out j hj (by omega)
              generalize m.filled[k].place = x at *
              generalize lastP (-1) ((m.filled.map Fd.place).take k) = a at *
              clear hr hlt hk h5 J
              by_cases ha : x ≤ a
              · have RF : Hid (riseB (-1) (m.filled.map Fd.place) = false) := RS.out fun h => by omega
                clear RS LS JN
                go_wp2
                go_ret
                exact ⟨by unfold Mg.oddB; rw [AH.out, A6.out, AS.out, RF.out]; simp, B1.out⟩
              · by_cases hb : x > 65535
                · have RF : Hid (riseB (-1) (m.filled.map Fd.place) = false) := RS.out fun h => by omega
                  clear RS LS JN
                  go_wp2
                  go_ret
                  exact ⟨by unfold Mg.oddB; rw [AH.out, A6.out, AS.out, RF.out]; simp, B1.out⟩
                · have JN2 := hide (JN.out ⟨by omega, by omega⟩)
                  clear RS JN
                  go_wp2
                  exact ⟨⟨k + 1, KK.out.1, by go_num, by rw [LS.out], JN2, trivial⟩, by simpa [intOf] using KK.out.2⟩
            · have h1 : ¬ (k : Int) < (m.filled.length : Int) := by omega
              have AF : Hid (riseB (-1) (m.filled.map Fd.place) = true) := rise_end (m.filled.map Fd.place) (-1) fun j hj => by rw [List.getElem_map]; exact J.out j (by simpa using hj) (by simp at hj; omega)
              clear J hlt hk
              go_upto_region 20 with fail
              clear h1 cf XF
              go_wp2
              go_loopw [5, 7] (fun a i wq => ∃ k : Nat, k ≤ m.places.length ∧ i = .int .i64 (k : Int) ∧ a = .int .i64 (lastP (-1) (m.places.take k)) ∧ Hid (∀ j (h : j < m.places.length), j < k → lastP (-1) (m.places.take j) < m.places[j] ∧ m.places[j] ≤ 65535) ∧ wq = wr) (fun _ i _ => (m.places.length - intOf i).toNat)
              case atStart => exact ⟨0, Nat.zero_le _, rfl, rfl, fun j _ h => absurd h (Nat.not_lt_zero _), rfl⟩
              case round =>
                obtain ⟨k, hk, rfl, rfl, J, rfl⟩ := hrel
                by_cases hlt : k < m.places.length
                · have h1 : (k : Int) < (m.places.length : Int) := by omega
                  have h2 : (0 : Int) ≤ (k : Int) := by omega
                  have h5 := FT.out.p
                  have e1 : IntKind.i64.wrap ((k : Int) + 1) = k + 1 := wrapI _ (by omega) (by omega)
                  have KK := hide (And.intro (show k + 1 ≤ m.places.length by omega) (show ((m.places.length : Int) - ((k : Int) + 1)).toNat < ((m.places.length : Int) - (k : Int)).toNat by omega))
                  obtain ⟨ga, oa, rfl⟩ := XP.out.base (by omega)
                  have hr := XP.out.range k hlt
                  have cc : wr.cell? ⟨ga, oa + k, none⟩ = some (.int .i64 m.places[k]) := by
                    have := hr 0 _ rfl
                    simpa [KP] using this
                  have RS := hide (rise_stop m.places (-1) k hlt)
                  have LS := hide (lastP_snoc (-1) m.places k hlt)
                  have JN : Hid ((lastP (-1) (m.places.take k) < m.places[k] ∧ m.places[k] ≤ 65535) → ∀ j (h : j < m.places.length), j < k + 1 → lastP (-1) (m.places.take j) < m.places[j] ∧ m.places[j] ≤ 65535) := fun hq j hj hjk => by
                    by_cases e : j = k
                    · subst e; exact hq
                    · exact J.out j hj (by omega)
                  generalize m.places[k] = x at *
                  generalize lastP (-1) (m.places.take k) = a at *
                  clear hr hlt hk h5 J
                  by_cases ha : x ≤ a
                  · have RF : Hid (riseB (-1) m.places = false) := RS.out fun h => by omega
                    clear RS LS JN
                    go_wp2
                    go_ret
                    exact ⟨by unfold Mg.oddB; rw [AH.out, A6.out, AS.out, AF.out, RF.out]; simp, B1.out⟩
                  · by_cases hb : x > 65535
                    · have RF : Hid (riseB (-1) m.places = false) := RS.out fun h => by omega
                      clear RS LS JN
                      go_wp2
                      go_ret
                      exact ⟨by unfold Mg.oddB; rw [AH.out, A6.out, AS.out, AF.out, RF.out]; simp, B1.out⟩
                    · have JN2 := hide (JN.out ⟨by omega, by omega⟩)
                      clear RS JN
                      go_wp2
                      exact ⟨⟨k + 1, KK.out.1, by go_num, by rw [LS.out], JN2, trivial⟩, by simpa [intOf] using KK.out.2⟩
                · have h1 : ¬ (k : Int) < (m.places.length : Int) := by omega
                  have AP : Hid (riseB (-1) m.places = true) := rise_end m.places (-1) fun j hj => by exact J.out j hj (by omega)
                  clear J hlt hk
                  go_upto_region 27 with fail
                  clear h1 cp XP
                  have LD : Hid (∀ W, Below wr.heap.size wr W → W.heap[w.heap.size]? = some (.cells (m.cells s).toArray 50 (0, 0))) := fun W b => (b.block _ (lt_heap RA.out)).trans RA.out
                  have HN : Hid (∀ W, Below wr.heap.size wr W → Calls Tryz.prog 24 #[.agg (m.cells s).toArray] W fun e w' => ∃ s', e = .returned (.agg (m.namedK.cells s').toArray) ∧ s'.ok ∧ (∀ W, MR W s m → MR W s' m.namedK) ∧ Below W.heap.size W w') := fun W b => named_any m s W (XX.out.below b)
                  have HS : Hid (∀ W s', Below wr.heap.size wr W → MR W s' m.namedK → Calls Tryz.prog 12 #[.agg (m.cells s).toArray, .agg (m.namedK.cells s').toArray] W fun e w' => e = .returned (.bool (decide (m = m.namedK))) ∧ Below W.heap.size W w') := fun W s' b h => rsame_any m m.namedK s s' W (XX.out.below b) h FT.out
                  have BD := hide ((Below.refl wr.heap.size wr).drew)
                  refine wp_region_held_drew (S := fun W => Below wr.heap.size wr W) (by kernel_rfl) BD.out (fun hH => ?_)
                  generalize hWd : wr.drew = W1 at *
                  clear hWd
                  refine wpAnyH_take (i := 0) (v := (.agg (m.cells s).toArray)) rfl (by kernel_rfl) (by kernel_rfl) (by kernel_rfl) (fun _ _ _ h => h) (yl_load (by rfl) _ (by rfl) _ (m.cells s).toArray (by rfl) (fun W hS => ld_row AMr HZ.out (LD.out W hS))) hH ?_
                  change wpAnyH _ _ _ _ _ _ _ (Act.put _ (some 101) _) _
                  simp only [Act.put, List.setIfInBounds_toArray, List.set_cons_zero, List.set_cons_succ]
                  refine wpAnyH_take (i := 1) (v := (.agg (m.cells s).toArray)) rfl (by kernel_rfl) (by kernel_rfl) (by kernel_rfl) (fun _ _ _ h => h) (yl_load (by rfl) _ (by rfl) _ (m.cells s).toArray (by rfl) (fun W hS => ld_row AMr HZ.out (LD.out W hS))) hH ?_
                  change wpAnyH _ _ _ _ _ _ _ (Act.put _ (some 102) _) _
                  simp only [Act.put, List.setIfInBounds_toArray, List.set_cons_zero, List.set_cons_succ]
                  refine wpAnyH_ready (rs := [2]) (by kernel_rfl) (by simp) (AllReadyH.cons rfl (fun K1 hK1 => ?_) AllReadyH.nil)
                  go_simp
                  with_reducible refine (HN.out W1 BD.out).mono ?_
                  rintro e W2 ⟨s', rfl, sok, sml, be⟩
                  have B2 := hide (below_next BD.out be)
                  have SM := hide (sml W2 (XX.out.below B2.out))
                  clear be sok sml
                  refine hK1.out _ _ B2.out (fun hH => ?_)
                  clear hK1
                  refine wpAnyH_ready (rs := [3]) (by kernel_rfl) (by simp) (AllReadyH.cons rfl (fun K1 hK1 => ?_) AllReadyH.nil)
                  go_simp
                  with_reducible refine (HS.out W2 s' B2.out SM.out).mono ?_
                  rintro e W3 ⟨rfl, be⟩
                  have B3 := hide (below_next B2.out be)
                  clear be
                  refine hK1.out _ _ B3.out (fun hH => ?_)
                  clear hK1
                  have OE : Hid (m.oddB = !(decide (m = m.namedK))) := by
                    show _ = _
                    unfold Mg.oddB
                    rw [AH.out, A6.out, AS.out, AF.out, AP.out]
                    simp
                  generalize decide (m = m.namedK) = q at *
                  refine wpAnyH_take (i := 4) (v := (.bool (!q))) rfl (by kernel_rfl) (by kernel_rfl) (by kernel_rfl) (fun _ _ _ h => h) (.inl ⟨by rfl, fun W _ => by go_simp⟩) hH ?_
                  change wpAnyH _ _ _ _ _ _ _ (Act.put _ (some 105) _) _
                  simp only [Act.put, List.setIfInBounds_toArray, List.set_cons_zero, List.set_cons_succ]
                  refine wpAnyH_ready (rs := [5]) (by kernel_rfl) (by simp) (AllReadyH.cons rfl (fun K1 hK1 => ?_) AllReadyH.nil)
                  go_simp
                  refine hK1.out _ _ B3.out (fun hH => ?_)
                  clear hK1
                  refine wpAnyH_done (by kernel_rfl) ?_ _
                  clear hH HN HS LD
                  go_wp2
                  go_ret
                  exact ⟨by rw [OE.out]; rfl, below_next B1.out B3.out⟩
end
end Go.Proofs.YtkoidjaaojmcnaaGreat
