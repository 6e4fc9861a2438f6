/- tx.Check: its contract. -/
import Derived.Test.YtkbfcfmjbgnhcaaKze
namespace Go.Proofs.Ytkbfcfmjbgnhcaa
open Go.RowKit
open Go.Deep
set_option linter.unusedVariables false
theorem Ti.keyR {W : World} {g off : Nat} (x : Ti) (h : W.rangeAt g off x.cells) : W.cell? ⟨g, off + 33, none⟩ = some (.string x.key) := h 33 _ (by rw [← List.getElem?_toArray]; exact x.at33)
section
set_option maxRecDepth 10000
set_option maxHeartbeats 4000000
theorem check_any (m : Tm) (ai : Option Addr) (ci : Nat) (ao : Option Addr) (co : Nat) (w : World) (hl : LT w m ai ci ao co) (hf : m.fit) : Calls Try.prog 8 #[.agg (m.cells ai ci ao co)] w fun e w' => e = .returned (.int .i64 m.chk) ∧ Below w.heap.size w w' := by
  have b1 := (Below.refl w.heap.size w).alloc (Nat.le_refl _) (.cells (m.cells ai ci ao co) 26)
  have r1 := heap_alloc_last w (.cells (m.cells ai ci ao co) 26)
  have HF := hide hf
  have HL := hide (hl.below b1)
  have B1 := hide b1
  have CZ : Hid ((m.cells ai ci ao co).size = 4) := rfl
  have RT : Hid (∀ W, Below (w.alloc (.cells (m.cells ai ci ao co) 26)).heap.size (w.alloc (.cells (m.cells ai ci ao co) 26)) W → W.heap[w.heap.size]? = some (.cells (m.cells ai ci ao co) 26 (0, 0))) := fun W b => (b.block _ (lt_heap r1)).trans r1
  have CC : Hid (∀ W, Below (w.alloc (.cells (m.cells ai ci ao co) 26)).heap.size (w.alloc (.cells (m.cells ai ci ao co) 26)) W → W.cell? ⟨w.heap.size, 1, none⟩ = some (.slice ai m.ins.length ci) ∧ W.cell? ⟨w.heap.size, 2, none⟩ = some (.slice ao m.outs.length co)) := fun W b => by
    have q := (b.block _ (lt_heap r1)).trans r1
    exact ⟨by rw [cell_of_row _ _ _ _ _ _ q]; rfl, by rw [cell_of_row _ _ _ _ _ _ q]; rfl⟩
  have HT : Hid (∀ W, LT W m ai ci ao co → Calls Try.prog 14 #[.agg (m.cells ai ci ao co)] W fun e w' => e = .returned (.int .i64 m.toldE) ∧ Below W.heap.size W w') := fun W l => told_any m ai ci ao co W l HF.out
  have HP : Hid (∀ W, LT W m ai ci ao co → Calls Try.prog 5 #[.agg (m.cells ai ci ao co)] W fun e w' => e = .returned (.tuple #[.int .u64 (m.paid.1 : Int), .int .i64 m.paid.2]) ∧ Below W.heap.size W w') := fun W l => paid_any m ai ci ao co W l HF.out
  have HW : Hid (∀ W, LT W m ai ci ao co → Calls Try.prog 15 #[.agg (m.cells ai ci ao co)] W fun e w' => e = .returned (.bool (decide (¬ (m.ins.map Ti.pt).Nodup))) ∧ Below W.heap.size W w') := fun W l => hasTwin_any m ai ci ao co W l HF.out
  have HB : Hid (∀ W, LT W m ai ci ao co → Calls Try.prog 10 #[.agg (m.cells ai ci ao co)] W fun e w' => e = .returned (.bool m.base) ∧ Below W.heap.size W w') := fun W l => base_any m ai ci ao co W l HF.out
  clear hf hl b1 r1
  generalize m.cells ai ci ao co = C at *
  have K0 : Hid (¬ m.toldE = 0 → m.chk = m.toldE) := fun h => by rw [Tm.chk, if_pos h]
  have K1 : Hid (m.toldE = 0 → (m.ins.length = 0 ∨ m.outs.length = 0) → m.chk = 102) := fun h h2 => by rw [Tm.chk, if_neg (not_not_intro h), if_pos h2]
  have K2 : Hid (m.toldE = 0 → ¬ (m.ins.length = 0 ∨ m.outs.length = 0) → ¬ m.paid.2 = 0 → m.chk = m.paid.2) := fun h h2 h3 => by rw [Tm.chk, if_neg (not_not_intro h), if_neg h2, if_pos h3]
  have K3 : Hid (m.toldE = 0 → ¬ (m.ins.length = 0 ∨ m.outs.length = 0) → m.paid.2 = 0 → m.chk = m.chk2) := fun h h2 h3 => by rw [Tm.chk, if_neg (not_not_intro h), if_neg h2, if_neg (not_not_intro h3)]
  go_enter Try.func8, Try.ntmps8
  go_upto_region 1 with ((with_reducible refine at_list ?_); refine wpList_boxA rfl _ rfl C rfl ?_)
  generalize w.alloc (.cells C 26) = W0 at *
  have R0 := hide (RT.out _ (Below.refl _ _))
  by_cases h0 : m.toldE = 0
  · rw [h0] at HT
    go_upto_region 4 with (first | (go_at_call 14; refine (HT.out _ HL.out).mono ?_; rintro r W1 ⟨rfl, be⟩; have D1 := hide be; clear be) | ((with_reducible refine at_list ?_); refine wpList_loadS AT _ rfl w.heap.size rfl C CZ.out 26 R0.out (by rfl) ?_))
    have H0 := hide h0
    obtain ⟨ca, cb⟩ := CC.out _ D1.out
    have R1 := hide (RT.out _ D1.out)
    clear h0 HT R0
    by_cases hi : m.ins.length = 0
    · have g1 : ((m.ins.length : Int) == 0) = true := by simp [hi]
      go_wp2
      go_ret
      exact ⟨by rw [K1.out H0.out (.inl hi)]; rfl, below_next B1.out D1.out⟩
    · have g1 : ((m.ins.length : Int) == 0) = false := by rw [beq_eq_false_iff_ne]; omega
      by_cases ho : m.outs.length = 0
      · have g2 : ((m.outs.length : Int) == 0) = true := by simp [ho]
        go_wp2
        go_ret
        exact ⟨by rw [K1.out H0.out (.inr ho)]; rfl, below_next B1.out D1.out⟩
      · have g2 : ((m.outs.length : Int) == 0) = false := by rw [beq_eq_false_iff_ne]; omega
        have HIO := hide (show ¬ (m.ins.length = 0 ∨ m.outs.length = 0) by omega)
        have HI0 := hide (show 0 < m.ins.length by omega)
        clear hi ho
        go_upto_region 6 with fail
        clear g1 g2 ca cb
        by_cases hp : m.paid.2 = 0
        · rw [hp] at HP
          go_upto_region 9 with (first | (go_at_call 5; refine (HP.out _ (HL.out.below D1.out)).mono ?_; rintro r W2 ⟨rfl, be⟩; have D2 := hide (below_next D1.out be); clear be) | ((with_reducible refine at_list ?_); refine wpList_loadS AT _ rfl w.heap.size rfl C CZ.out 26 R1.out (by rfl) ?_))
          have PE := hide hp
          have R2 := hide (RT.out _ D2.out)
          clear hp HP R1 D1
          by_cases ht : (m.ins.map Ti.pt).Nodup
          · rw [decide_eq_false (not_not_intro ht)] at HW
            have NT := hide ht
            clear ht
            go_upto_region 11 with (first | (go_at_call 15; refine (HW.out _ (HL.out.below D2.out)).mono ?_; rintro r W3 ⟨rfl, be⟩; have D3 := hide (below_next D2.out be); clear be) | ((with_reducible refine at_list ?_); refine wpList_loadS AT _ rfl w.heap.size rfl C CZ.out 26 R2.out (by rfl) ?_))
            have R3 := hide (RT.out _ D3.out)
            clear HW R2 D2
            have CHK : Hid (m.chk2 = if m.base = true then hkE m.ins else if m.ins.any nullI = true then 106 else 0) := by
              show _ = _
              rw [Tm.chk2, if_neg (not_not_intro NT.out)]
            cases hb : m.base
            · rw [hb] at HB
              have CHK2 : Hid (m.chk2 = if m.ins.any nullI = true then 106 else 0) := by
                show _ = _
                rw [CHK.out, hb]
                rfl
              clear hb CHK
              go_upto_region 13 with (first | (go_at_call 10; refine (HB.out _ (HL.out.below D3.out)).mono ?_; rintro r W4 ⟨rfl, be⟩; have D4 := hide (below_next D3.out be); clear be) | ((with_reducible refine at_list ?_); refine wpList_loadS AT _ rfl w.heap.size rfl C CZ.out 26 R3.out (by rfl) ?_))
              have c4 := (CC.out _ D4.out).1
              go_upto_region 14 with fail
              clear c4 HB R3 D3
              go_loopw [44] (fun i wr => ∃ k : Nat, k ≤ m.ins.length ∧ i = .int .i64 (k : Int) ∧ Hid ((m.ins.take k).any nullI = false ∧ Below W0.heap.size W0 wr)) (fun i _ => (m.ins.length - intOf i).toNat)
              case atStart => exact ⟨0, Nat.zero_le _, rfl, by simp, D4.out⟩
              case round =>
                obtain ⟨k, hk, rfl, J⟩ := hrel
                by_cases hlt : k < m.ins.length
                · have h1 : (k : Int) < (m.ins.length : Int) := by omega
                  have h2 : (0 : Int) ≤ (k : Int) := by omega
                  have h5 := HF.out.i
                  have e1 : IntKind.i64.wrap ((k : Int) + 1) = k + 1 := wrapI _ (by omega) (by omega)
                  have KK := hide (And.intro (show k + 1 ≤ m.ins.length by omega) (show ((m.ins.length : Int) - ((k : Int) + 1)).toNat < ((m.ins.length : Int) - (k : Int)).toNat by omega))
                  obtain ⟨ga, oa, rfl⟩ := HL.out.i.base (by omega)
                  have RG : Hid (wr.rangeAt ga (oa + k * 35) m.ins[k].cells) := (HL.out.below J.out.2).i.range k hlt
                  have AH := hide (any_here nullI m.ins k hlt)
                  have ATk := hide (fun h => any_take nullI m.ins k hlt J.out.1 h)
                  have JB := hide J.out.2
                  generalize m.ins[k] = x at *
                  clear hk hlt h5 J
                  go_upto_region 16 with ((with_reducible refine at_list ?_); first | refine wpLoadI _ rfl ga (oa + k * 35) rfl x RG.out (by rfl) ?_ | refine wpList_allocA AI rfl rfl ?_ | refine wpList_store_newA AI rfl _ _ rfl _ rfl x.cells.toArray x.size x.all rfl rfl ?_)
                  have RP := hide (x.ptAt (rowAt _ (heap_alloc_last wr (.cells x.cells.toArray 48))))
                  have J2 : Hid (Below W0.heap.size W0 (wr.alloc (.cells x.cells.toArray 48))) := JB.out.alloc JB.out.size _
                  clear JB RG
                  generalize wr.alloc (.cells x.cells.toArray 48) = wr2 at *
                  generalize wr.heap.size = g7 at *
                  have HN := hide (fun W => isNull_any x.pt W)
                  cases hn : nullI x
                  · have ATK := hide (ATk.out hn)
                    rw [show decide (x.pt = nullP) = false from hn] at HN
                    clear hn AH ATk
                    generalize x.pt = p at *
                    go_wp2_with (first | (go_at_call 17; refine (HN.out _).mono ?_; rintro r W5 ⟨rfl, be⟩; have J3 := hide (below_next J2.out be); clear be) | ((with_reducible refine at_list ?_); refine wpLoadP _ rfl g7 0 rfl p RP.out (by rfl) ?_))
                    exact ⟨⟨k + 1, KK.out.1, by go_num, ATK.out, J3.out⟩, by simpa [intOf] using KK.out.2⟩
                  · have AHH := hide (AH.out hn)
                    rw [show decide (x.pt = nullP) = true from hn] at HN
                    clear hn AH ATk
                    generalize x.pt = p at *
                    go_wp2_with (first | (go_at_call 17; refine (HN.out _).mono ?_; rintro r W5 ⟨rfl, be⟩; have J3 := hide (below_next J2.out be); clear be) | ((with_reducible refine at_list ?_); refine wpLoadP _ rfl g7 0 rfl p RP.out (by rfl) ?_))
                    go_ret
                    exact ⟨by rw [K3.out H0.out HIO.out PE.out, CHK2.out, if_pos AHH.out]; rfl, below_next B1.out J3.out⟩
                · have h1 : ¬ (k : Int) < (m.ins.length : Int) := by omega
                  have NI := hide J.out.1
                  rw [List.take_of_length_le (by omega)] at NI
                  have JB := hide J.out.2
                  clear J hk hlt
                  go_wp2
                  go_ret
                  exact ⟨by rw [K3.out H0.out HIO.out PE.out, CHK2.out, if_neg (by rw [NI.out]; decide)]; rfl, below_next B1.out JB.out⟩
            · rw [hb] at HB
              have CHK2 : Hid (m.chk2 = bkE (m.ins[0]'HI0.out).key) := by
                show _ = _
                rw [CHK.out, hb, if_pos rfl]
                exact hkE_at _ HI0.out
              clear hb CHK
              obtain ⟨ga, oa, rfl⟩ := HL.out.i.base HI0.out
              go_upto_region 12 with (first | (go_at_call 10; refine (HB.out _ (HL.out.below D3.out)).mono ?_; rintro r W4 ⟨rfl, be⟩; have D4 := hide (below_next D3.out be); clear be) | ((with_reducible refine at_list ?_); refine wpList_loadS AT _ rfl w.heap.size rfl C CZ.out 26 R3.out (by rfl) ?_))
              have c4 := (CC.out _ D4.out).1
              have c5 := Ti.keyR _ ((HL.out.below D4.out).i.range 0 HI0.out)
              rw [Nat.zero_mul, Nat.add_zero] at c5
              have h9 : (0 : Int) < (m.ins.length : Int) := by have := HI0.out; omega
              generalize (m.ins[0]'HI0.out).key = kk at *
              have HK := hide (fun W => baseKey_any kk W)
              generalize bkE kk = E at *
              go_wp2_with (go_at_call 16; refine (HK.out _).mono ?_; rintro r W5 ⟨rfl, be⟩; have D5 := hide (below_next D4.out be); clear be)
              go_ret
              exact ⟨by rw [K3.out H0.out HIO.out PE.out, CHK2.out]; rfl, below_next B1.out D5.out⟩
          · rw [decide_eq_true ht] at HW
            have NT := hide ht
            clear ht
            go_wp2_with (first | (go_at_call 15; refine (HW.out _ (HL.out.below D2.out)).mono ?_; rintro r W3 ⟨rfl, be⟩; have D3 := hide (below_next D2.out be); clear be) | ((with_reducible refine at_list ?_); refine wpList_loadS AT _ rfl w.heap.size rfl C CZ.out 26 R2.out (by rfl) ?_))
            go_ret
            exact ⟨by rw [K3.out H0.out HIO.out PE.out, Tm.chk2, if_pos NT.out]; rfl, below_next B1.out D3.out⟩
        · have PE := hide hp
          go_wp2_with (first | (go_at_call 5; refine (HP.out _ (HL.out.below D1.out)).mono ?_; rintro r W2 ⟨rfl, be⟩; have D2 := hide (below_next D1.out be); clear be) | ((with_reducible refine at_list ?_); refine wpList_loadS AT _ rfl w.heap.size rfl C CZ.out 26 R1.out (by rfl) ?_))
          go_ret
          exact ⟨by rw [K2.out H0.out HIO.out PE.out]; rfl, below_next B1.out D2.out⟩
  · have H0 := hide h0
    go_wp2_with (first | (go_at_call 14; refine (HT.out _ HL.out).mono ?_; rintro r W1 ⟨rfl, be⟩; have D1 := hide be; clear be) | ((with_reducible refine at_list ?_); refine wpList_loadS AT _ rfl w.heap.size rfl C CZ.out 26 R0.out (by rfl) ?_))
    go_ret
    exact ⟨by rw [K0.out H0.out]; rfl, below_next B1.out D1.out⟩
end
end Go.Proofs.Ytkbfcfmjbgnhcaa
