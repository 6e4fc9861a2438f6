/- The document's Check: its contract. -/
import Derived.Test.YtkbfcfmjbgnhcaaKzf
namespace Go.Proofs.Ytkbfcfmjbgnhcaa
open Go.RowKit
open Go.Deep
set_option linter.unusedVariables false
theorem LR.capI {w : World} {m : Tm} {ai : Option Addr} {ci : Nat} {ao : Option Addr} {co : Nat} (h : LR w m ai ci ao co) : m.ins.length ≤ ci := by
  obtain ⟨a, c, e, hle, _⟩ := h.i
  cases e
  exact hle
theorem not_take (L : List Tp) (j : Nat) (hj : j < L.length) (p : Tp) (h : p ∉ L.take j) (hn : ¬ p = L[j]) : p ∉ L.take (j + 1) := by
  rw [← List.take_append_getElem hj, List.mem_append, List.mem_singleton]
  exact fun h2 => h2.elim h hn
theorem in_take (L : List Tp) (k j : Nat) (hj : j < k) (hk : k < L.length) (p : Tp) (h : p = L[j]'(by omega)) : p ∈ L.take k := by
  subst h
  exact List.mem_take_iff_getElem.2 ⟨j, by omega, rfl⟩
theorem pt_same (x y : Ti) : ((x.hash == y.hash) && ((x.idx.toNat : Int) == (y.idx.toNat : Int))) = decide (x.pt = y.pt) := by
  rw [← Tp.same, Bool.and_true]
  rfl
section
set_option maxRecDepth 10000
set_option maxHeartbeats 8000000
theorem rcheck_any (m : Tm) (ai : Option Addr) (ci : Nat) (ao : Option Addr) (co : Nat) (w : World) (hl : LR w m ai ci ao co) (hf : m.fit) : Calls Try.prog 9 #[.agg (m.cells ai ci ao co)] w fun e w' => e = .returned (.int .i64 m.chk) ∧ Below w.heap.size w w' := by
  have b1 := (Below.refl w.heap.size w).alloc (Nat.le_refl _) (.cells (m.cells ai ci ao co) 30)
  have r1 := heap_alloc_last w (.cells (m.cells ai ci ao co) 30)
  have HF := hide hf
  have HCap := hide hl.capI
  have HL := hide (hl.below b1)
  have B1 := hide b1
  have HG : Try.prog.eqGuardType Try.prog.depth 43 = false := by kernel_rfl
  have CZ : Hid ((m.cells ai ci ao co).size = 4) := rfl
  have RT : Hid (∀ W, Below (w.alloc (.cells (m.cells ai ci ao co) 30)).heap.size (w.alloc (.cells (m.cells ai ci ao co) 30)) W → W.heap[w.heap.size]? = some (.cells (m.cells ai ci ao co) 30 (0, 0))) := fun W b => (b.block _ (lt_heap r1)).trans r1
  have CC : Hid (∀ W, Below (w.alloc (.cells (m.cells ai ci ao co) 30)).heap.size (w.alloc (.cells (m.cells ai ci ao co) 30)) W → W.cell? ⟨w.heap.size, 1, none⟩ = some (.slice ai m.ins.length ci) ∧ W.cell? ⟨w.heap.size, 2, none⟩ = some (.slice ao m.outs.length co)) := fun W b => by
    have q := (b.block _ (lt_heap r1)).trans r1
    exact ⟨by rw [cell_of_row _ _ _ _ _ _ q]; rfl, by rw [cell_of_row _ _ _ _ _ _ q]; rfl⟩
  have HT : Hid (∀ W, LR W m ai ci ao co → Calls Try.prog 18 #[.agg (m.cells ai ci ao co)] W fun e w' => e = .returned (.int .i64 m.toldE) ∧ Below W.heap.size W w') := fun W l => rtold_any m ai ci ao co W l HF.out
  have HP : Hid (∀ W, LR W m ai ci ao co → Calls Try.prog 6 #[.agg (m.cells ai ci ao co)] W fun e w' => e = .returned (.tuple #[.int .u64 (m.paid.1 : Int), .int .i64 m.paid.2]) ∧ Below W.heap.size W w') := fun W l => rpaid_any m ai ci ao co W l HF.out
  have HB : Hid (∀ W, LR W m ai ci ao co → Calls Try.prog 11 #[.agg (m.cells ai ci ao co)] W fun e w' => e = .returned (.bool m.base) ∧ Below W.heap.size W w') := fun W l => rbase_any m ai ci ao co W l HF.out
  clear hf hl b1 r1
  generalize m.cells ai ci ao co = C at *
  have K0 : Hid (¬ m.toldE = 0 → m.chk = m.toldE) := fun h => by rw [Tm.chk, if_pos h]
  have K1 : Hid (m.toldE = 0 → (m.ins.length = 0 ∨ m.outs.length = 0) → m.chk = 102) := fun h h2 => by rw [Tm.chk, if_neg (not_not_intro h), if_pos h2]
  have K2 : Hid (m.toldE = 0 → ¬ (m.ins.length = 0 ∨ m.outs.length = 0) → ¬ m.paid.2 = 0 → m.chk = m.paid.2) := fun h h2 h3 => by rw [Tm.chk, if_neg (not_not_intro h), if_neg h2, if_pos h3]
  have K3 : Hid (m.toldE = 0 → ¬ (m.ins.length = 0 ∨ m.outs.length = 0) → m.paid.2 = 0 → m.chk = m.chk2) := fun h h2 h3 => by rw [Tm.chk, if_neg (not_not_intro h), if_neg h2, if_neg (not_not_intro h3)]
  go_enter Try.func9, Try.ntmps9
  go_upto_region 1 with ((with_reducible refine at_list ?_); refine wpList_boxA rfl _ rfl C rfl ?_)
  generalize w.alloc (.cells C 30) = W0 at *
  have R0 := hide (RT.out _ (Below.refl _ _))
  by_cases h0 : m.toldE = 0
  · rw [h0] at HT
    go_upto_region 4 with (first | (go_at_call 18; refine (HT.out _ HL.out).mono ?_; rintro r W1 ⟨rfl, be⟩; have D1 := hide be; clear be) | ((with_reducible refine at_list ?_); refine wpList_loadS ATr _ rfl w.heap.size rfl C CZ.out 30 R0.out (by rfl) ?_))
    have H0 := hide h0
    obtain ⟨ca, cb⟩ := CC.out _ D1.out
    have R1 := hide (RT.out _ D1.out)
    clear h0 HT R0
    by_cases hi : m.ins.length = 0
    · have g1 : ((m.ins.length : Int) == 0) = true := by simp [hi]
      go_wp2
      go_ret
      exact ⟨by rw [K1.out H0.out (.inl hi)]; rfl, below_next B1.out D1.out⟩
    · have g1 : ((m.ins.length : Int) == 0) = false := by rw [beq_eq_false_iff_ne]; omega
      by_cases ho : m.outs.length = 0
      · have g2 : ((m.outs.length : Int) == 0) = true := by simp [ho]
        go_wp2
        go_ret
        exact ⟨by rw [K1.out H0.out (.inr ho)]; rfl, below_next B1.out D1.out⟩
      · have g2 : ((m.outs.length : Int) == 0) = false := by rw [beq_eq_false_iff_ne]; omega
        have HIO := hide (show ¬ (m.ins.length = 0 ∨ m.outs.length = 0) by omega)
        have HI0 := hide (show 0 < m.ins.length by omega)
        clear hi ho
        go_upto_region 6 with fail
        clear g1 g2 ca cb
        by_cases hp : m.paid.2 = 0
        · rw [hp] at HP
          go_upto_region 9 with (first | (go_at_call 6; refine (HP.out _ (HL.out.below D1.out)).mono ?_; rintro r W2 ⟨rfl, be⟩; have D2 := hide (below_next D1.out be); clear be) | ((with_reducible refine at_list ?_); refine wpList_loadS ATr _ rfl w.heap.size rfl C CZ.out 30 R1.out (by rfl) ?_))
          have PE := hide hp
          have c2 := (CC.out _ D2.out).1
          clear hp HP R1 D1
          obtain ⟨ga, oa, rfl⟩ := HL.out.i.base HI0.out
          go_upto_region 10 with fail
          clear c2
          go_loopw [39] (fun i wr => ∃ k : Nat, k ≤ m.ins.length ∧ i = .int .i64 (k : Int) ∧ Hid (((m.ins.map Ti.pt).take k).Nodup ∧ Below W0.heap.size W0 wr)) (fun i _ => (m.ins.length - intOf i).toNat)
          case atStart => exact ⟨0, Nat.zero_le _, rfl, by simp, D2.out⟩
          case round =>
            obtain ⟨k, hk, rfl, J⟩ := hrel
            by_cases hlt : k < m.ins.length
            · have h1 : (k : Int) < (m.ins.length : Int) := by omega
              have h2 : (0 : Int) ≤ (k : Int) := by omega
              have h5 := HF.out.i
              have e1 : IntKind.i64.wrap ((k : Int) + 1) = k + 1 := wrapI _ (by omega) (by omega)
              have KK := hide (And.intro (show k + 1 ≤ m.ins.length by omega) (show ((m.ins.length : Int) - ((k : Int) + 1)).toNat < ((m.ins.length : Int) - (k : Int)).toNat by omega))
              have hcap : (k : Int) ≤ (ci : Int) := by have := HCap.out; omega
              have RG : Hid (wr.rangeAt ga (oa + k * 35) m.ins[k].cells) := (HL.out.below J.out.2).i.range k hlt
              have hkL : k < (m.ins.map Ti.pt).length := by simpa using hlt
              have TH := hide (twin_here (m.ins.map Ti.pt) k hkL)
              have TN := hide (twin_not (m.ins.map Ti.pt) k hkL J.out.1)
              have INS := hide (fun j (hj : j < k) (hj2 : j < m.ins.length) (h : (m.ins[k]).pt = (m.ins[j]'hj2).pt) => in_take (m.ins.map Ti.pt) k j hj hkL (m.ins[k]).pt (by simpa using h))
              have NTS := hide (fun j (hj : j < k) (hj2 : j < m.ins.length) (h0 : (m.ins[k]).pt ∉ (m.ins.map Ti.pt).take j) (h : ¬ (m.ins[k]).pt = (m.ins[j]'hj2).pt) => not_take (m.ins.map Ti.pt) j (by simpa using hj2) (m.ins[k]).pt h0 (by simpa using h))
              simp only [List.getElem_map] at TH TN
              have JB := hide J.out.2
              have HK := hide hlt
              generalize m.ins[k] = x at *
              clear hk hlt h5 J hkL
              go_upto_region 12 with ((with_reducible refine at_list ?_); first | refine wpLoadIr _ rfl ga (oa + k * 35) rfl x RG.out (by rfl) ?_ | refine wpList_allocA zAr' rfl rfl ?_ | refine wpList_store_newA zAr' rfl _ _ rfl _ rfl x.cells.toArray x.size x.all rfl rfl ?_)
              have RX := hide (heap_alloc_last wr (.cells x.cells.toArray 50))
              have J2 : Hid (Below W0.heap.size W0 (wr.alloc (.cells x.cells.toArray 50))) := JB.out.alloc JB.out.size _
              have c3 := (CC.out _ J2.out).1
              clear JB RG
              generalize wr.alloc (.cells x.cells.toArray 50) = W4 at *
              generalize wr.heap.size = g7 at *
              go_upto_region 13 with fail
              clear c3
              go_loopw [49] (fun i wr => ∃ j : Nat, j ≤ k ∧ i = .int .i64 (j : Int) ∧ Hid (x.pt ∉ (m.ins.map Ti.pt).take j ∧ Below W4.heap.size W4 wr)) (fun i _ => (k - intOf i).toNat)
              case atStart => exact ⟨0, Nat.zero_le _, rfl, by simp, Below.refl _ _⟩
              case round =>
                obtain ⟨j, hj, rfl, I⟩ := hrel
                by_cases hjt : j < k
                · have g1 : (j : Int) < (k : Int) := by omega
                  have g2 : (0 : Int) ≤ (j : Int) := by omega
                  have g5 := HF.out.i
                  have g6 := HK.out
                  have f1 : IntKind.i64.wrap ((j : Int) + 1) = j + 1 := wrapI _ (by omega) (by omega)
                  have JJ := hide (And.intro (show j + 1 ≤ k by omega) (show ((k : Int) - ((j : Int) + 1)).toNat < ((k : Int) - (j : Int)).toNat by omega))
                  have RG : Hid (wr.rangeAt ga (oa + j * 35) (m.ins[j]'(by omega)).cells) := (HL.out.below (below_next J2.out I.out.2)).i.range j (by omega)
                  have IN2 := hide (INS.out j hjt (by omega))
                  have NT2 := hide (NTS.out j hjt (by omega) I.out.1)
                  have IB := hide I.out.2
                  generalize (m.ins[j]'(by omega)) = y at *
                  clear hj hjt g5 g6 I INS NTS
                  go_upto_region 15 with ((with_reducible refine at_list ?_); first | refine wpLoadIr _ rfl ga (oa + j * 35) rfl y RG.out (by rfl) ?_ | refine wpList_allocA zAr' rfl rfl ?_ | refine wpList_store_newA zAr' rfl _ _ rfl _ rfl y.cells.toArray y.size y.all rfl rfl ?_)
                  have I2 : Hid (Below W4.heap.size W4 (wr.alloc (.cells y.cells.toArray 50))) := IB.out.alloc IB.out.size _
                  have RY := heap_alloc_last wr (.cells y.cells.toArray 50)
                  have RXX := (I2.out.block _ (lt_heap RX.out)).trans RX.out
                  have ya := hide (y.hashR (rowAt _ RY))
                  have xa := hide (x.hashR (rowAt _ RXX))
                  have yb := y.idxR (rowAt _ RY)
                  have xb := x.idxR (rowAt _ RXX)
                  rw [Nat.zero_add] at xb yb
                  have EQ := hide (eqH32 x.hash y.hash x.hh y.hh)
                  have PS := hide (pt_same x y)
                  have XH := hide x.hh
                  have YH := hide y.hh
                  clear IB RG RY RXX
                  generalize wr.alloc (.cells y.cells.toArray 50) = W5 at *
                  generalize wr.heap.size = g9 at *
                  generalize (y.idx.toNat : Int) = VY at *
                  generalize (x.idx.toNat : Int) = VX at *
                  generalize y.hash = HY at *
                  generalize x.hash = HX at *
                  generalize hq : (HX == HY) = b at *
                  clear hq
                  cases b
                  · have NE : Hid (¬ x.pt = y.pt) := fun e => by
                      have h := PS.out
                      rw [decide_eq_true e] at h
                      cases h
                    have NT3 := hide (NT2.out NE.out)
                    clear PS IN2 NT2
                    go_wp2_with ((with_reducible refine at_list ?_); first | refine wpLoadH32 _ rfl g7 0 rfl HX XH.out xa.out (by rfl) ?_ | refine wpLoadH32 _ rfl g9 0 rfl HY YH.out ya.out (by rfl) ?_ | refine wpList_eql 43 _ _ _ rfl (hc HX) (hc HY) rfl rfl (by rfl) HG false EQ.out ?_)
                    exact ⟨⟨j + 1, JJ.out.1, by go_num, NT3.out, I2.out⟩, by simpa [intOf] using JJ.out.2⟩
                  · cases hv : (VX == VY)
                    · have NE : Hid (¬ x.pt = y.pt) := fun e => by
                        have h := PS.out
                        rw [decide_eq_true e, hv] at h
                        cases h
                      have NT3 := hide (NT2.out NE.out)
                      clear PS IN2 NT2
                      go_wp2_with ((with_reducible refine at_list ?_); first | refine wpLoadH32 _ rfl g7 0 rfl HX XH.out xa.out (by rfl) ?_ | refine wpLoadH32 _ rfl g9 0 rfl HY YH.out ya.out (by rfl) ?_ | refine wpList_eql 43 _ _ _ rfl (hc HX) (hc HY) rfl rfl (by rfl) HG true EQ.out ?_)
                      exact ⟨⟨j + 1, JJ.out.1, by go_num, NT3.out, I2.out⟩, by simpa [intOf] using JJ.out.2⟩
                    · have EE : Hid (x.pt = y.pt) := by
                        show _ = _
                        have h := PS.out
                        rw [hv] at h
                        exact of_decide_eq_true h.symm
                      have TW := hide (TH.out (IN2.out EE.out))
                      clear PS IN2 NT2
                      go_wp2_with ((with_reducible refine at_list ?_); first | refine wpLoadH32 _ rfl g7 0 rfl HX XH.out xa.out (by rfl) ?_ | refine wpLoadH32 _ rfl g9 0 rfl HY YH.out ya.out (by rfl) ?_ | refine wpList_eql 43 _ _ _ rfl (hc HX) (hc HY) rfl rfl (by rfl) HG true EQ.out ?_)
                      go_ret
                      exact ⟨by rw [K3.out H0.out HIO.out PE.out, Tm.chk2, if_pos TW.out]; rfl, below_next B1.out (below_next J2.out I2.out)⟩
                · have g1 : ¬ (j : Int) < (k : Int) := by omega
                  have ej : j = k := by omega
                  subst ej
                  have TN2 := hide (TN.out I.out.1)
                  have IB := hide (below_next J2.out I.out.2)
                  clear hj hjt I TN TH INS NTS
                  go_wp2
                  exact ⟨⟨j + 1, KK.out.1, by go_num, TN2.out, IB.out⟩, by simpa [intOf] using KK.out.2⟩
            · have h1 : ¬ (k : Int) < (m.ins.length : Int) := by omega
              have ND := J.out.1
              rw [List.take_of_length_le (by simp; omega)] at ND
              have NT := hide ND
              have D3 := hide J.out.2
              clear J hk hlt ND
              have R3 := hide (RT.out _ D3.out)
              have CHK : Hid (m.chk2 = if m.base = true then hkE m.ins else if m.ins.any nullI = true then 106 else 0) := by
                show _ = _
                rw [Tm.chk2, if_neg (not_not_intro NT.out)]
              go_upto_region 19 with fail
              clear h1
              cases hb : m.base
              · rw [hb] at HB
                have CHK2 : Hid (m.chk2 = if m.ins.any nullI = true then 106 else 0) := by
                  show _ = _
                  rw [CHK.out, hb]
                  rfl
                clear hb CHK
                go_upto_region 24 with (first | (go_at_call 11; refine (HB.out _ (HL.out.below D3.out)).mono ?_; rintro r W4 ⟨rfl, be⟩; have D4 := hide (below_next D3.out be); clear be) | ((with_reducible refine at_list ?_); refine wpList_loadS ATr _ rfl w.heap.size rfl C CZ.out 30 R3.out (by rfl) ?_))
                have c4 := (CC.out _ D4.out).1
                go_upto_region 25 with fail
                clear c4 HB R3 D3
                go_loopw [84] (fun i wr => ∃ k : Nat, k ≤ m.ins.length ∧ i = .int .i64 (k : Int) ∧ Hid ((m.ins.take k).any nullI = false ∧ Below W0.heap.size W0 wr)) (fun i _ => (m.ins.length - intOf i).toNat)
                case atStart => exact ⟨0, Nat.zero_le _, rfl, by simp, D4.out⟩
                case round =>
                  obtain ⟨k, hk, rfl, J⟩ := hrel
                  by_cases hlt : k < m.ins.length
                  · have h1 : (k : Int) < (m.ins.length : Int) := by omega
                    have h2 : (0 : Int) ≤ (k : Int) := by omega
                    have h5 := HF.out.i
                    have e1 : IntKind.i64.wrap ((k : Int) + 1) = k + 1 := wrapI _ (by omega) (by omega)
                    have KK := hide (And.intro (show k + 1 ≤ m.ins.length by omega) (show ((m.ins.length : Int) - ((k : Int) + 1)).toNat < ((m.ins.length : Int) - (k : Int)).toNat by omega))
                    have RG : Hid (wr.rangeAt ga (oa + k * 35) m.ins[k].cells) := (HL.out.below J.out.2).i.range k hlt
                    have AH := hide (any_here nullI m.ins k hlt)
                    have ATk := hide (fun h => any_take nullI m.ins k hlt J.out.1 h)
                    have JB := hide J.out.2
                    generalize m.ins[k] = x at *
                    clear hk hlt h5 J
                    go_upto_region 27 with ((with_reducible refine at_list ?_); first | refine wpLoadIr _ rfl ga (oa + k * 35) rfl x RG.out (by rfl) ?_ | refine wpList_allocA zAr' rfl rfl ?_ | refine wpList_store_newA zAr' rfl _ _ rfl _ rfl x.cells.toArray x.size x.all rfl rfl ?_)
                    have RY := heap_alloc_last wr (.cells x.cells.toArray 50)
                    have xa := hide (x.hashR (rowAt _ RY))
                    have xb := x.idxR (rowAt _ RY)
                    rw [Nat.zero_add] at xb
                    have J2 : Hid (Below W0.heap.size W0 (wr.alloc (.cells x.cells.toArray 50))) := JB.out.alloc JB.out.size _
                    have EQ := hide (eqH32 x.hash zeros x.hh zeros_len)
                    have XH := hide x.hh
                    have PS : Hid (((x.hash == zeros) && ((x.idx.toNat : Int) == 4294967295)) = nullI x) := by
                      show _ = _
                      have h := Tp.same x.pt nullP
                      rw [Bool.and_true] at h
                      exact h
                    clear JB RG RY
                    generalize wr.alloc (.cells x.cells.toArray 50) = wr2 at *
                    generalize wr.heap.size = g7 at *
                    generalize (x.idx.toNat : Int) = VX at *
                    generalize x.hash = HX at *
                    generalize hq : (HX == zeros) = b at *
                    clear hq
                    cases b
                    · have ATK := hide (ATk.out PS.out.symm)
                      clear AH ATk PS
                      go_wp2_with ((with_reducible refine at_list ?_); first | refine wpLoadH32 _ rfl g7 0 rfl HX XH.out xa.out (by rfl) ?_ | refine wpList_buildV AH32 rfl (by rfl) ?_ | refine wpList_eql 43 _ _ _ rfl (hc HX) (hc zeros) rfl rfl (by rfl) HG false EQ.out ?_)
                      exact ⟨⟨k + 1, KK.out.1, by go_num, ATK.out, J2.out⟩, by simpa [intOf] using KK.out.2⟩
                    · cases hv : (VX == 4294967295)
                      · rw [hv] at PS
                        have ATK := hide (ATk.out PS.out.symm)
                        clear AH ATk PS
                        go_wp2_with ((with_reducible refine at_list ?_); first | refine wpLoadH32 _ rfl g7 0 rfl HX XH.out xa.out (by rfl) ?_ | refine wpList_buildV AH32 rfl (by rfl) ?_ | refine wpList_eql 43 _ _ _ rfl (hc HX) (hc zeros) rfl rfl (by rfl) HG true EQ.out ?_)
                        exact ⟨⟨k + 1, KK.out.1, by go_num, ATK.out, J2.out⟩, by simpa [intOf] using KK.out.2⟩
                      · rw [hv] at PS
                        have AHH := hide (AH.out PS.out.symm)
                        clear AH ATk PS
                        go_wp2_with ((with_reducible refine at_list ?_); first | refine wpLoadH32 _ rfl g7 0 rfl HX XH.out xa.out (by rfl) ?_ | refine wpList_buildV AH32 rfl (by rfl) ?_ | refine wpList_eql 43 _ _ _ rfl (hc HX) (hc zeros) rfl rfl (by rfl) HG true EQ.out ?_)
                        go_ret
                        exact ⟨by rw [K3.out H0.out HIO.out PE.out, CHK2.out, if_pos AHH.out]; rfl, below_next B1.out J2.out⟩
                  · have h1 : ¬ (k : Int) < (m.ins.length : Int) := by omega
                    have NI := hide J.out.1
                    rw [List.take_of_length_le (by omega)] at NI
                    have JB := hide J.out.2
                    clear J hk hlt
                    go_wp2
                    go_ret
                    exact ⟨by rw [K3.out H0.out HIO.out PE.out, CHK2.out, if_neg (by rw [NI.out]; decide)]; rfl, below_next B1.out JB.out⟩
              · rw [hb] at HB
                have CHK2 : Hid (m.chk2 = bkE (m.ins[0]'HI0.out).key) := by
                  show _ = _
                  rw [CHK.out, hb, if_pos rfl]
                  exact hkE_at _ HI0.out
                clear hb CHK
                go_upto_region 20 with (first | (go_at_call 11; refine (HB.out _ (HL.out.below D3.out)).mono ?_; rintro r W4 ⟨rfl, be⟩; have D4 := hide (below_next D3.out be); clear be) | ((with_reducible refine at_list ?_); refine wpList_loadS ATr _ rfl w.heap.size rfl C CZ.out 30 R3.out (by rfl) ?_))
                have c4 := (CC.out _ D4.out).1
                have c5 := Ti.keyR _ ((HL.out.below D4.out).i.range 0 HI0.out)
                rw [Nat.zero_mul, Nat.add_zero] at c5
                have h9 : (0 : Int) < (m.ins.length : Int) := by have := HI0.out; omega
                generalize (m.ins[0]'HI0.out).key = kk at *
                go_upto_region 21 with fail
                clear c4 c5 h9
                rw [bkE] at CHK2
                by_cases q1 : kk.size < 2
                · rw [if_pos q1] at CHK2
                  have g1 : decide ((kk.size : Int) < 2) = true := decide_eq_true (by omega)
                  clear q1
                  go_wp2
                  go_ret
                  exact ⟨by rw [K3.out H0.out HIO.out PE.out, CHK2.out]; rfl, below_next B1.out D4.out⟩
                · rw [if_neg q1] at CHK2
                  have g1 : decide ((kk.size : Int) < 2) = false := decide_eq_false (by omega)
                  clear q1
                  by_cases q2 : 100 < kk.size
                  · rw [if_pos q2] at CHK2
                    have g2 : decide ((kk.size : Int) > 100) = true := decide_eq_true (by omega)
                    clear q2
                    go_wp2
                    go_ret
                    exact ⟨by rw [K3.out H0.out HIO.out PE.out, CHK2.out]; rfl, below_next B1.out D4.out⟩
                  · rw [if_neg q2] at CHK2
                    have g2 : decide ((kk.size : Int) > 100) = false := decide_eq_false (by omega)
                    clear q2
                    go_wp2
                    go_ret
                    exact ⟨by rw [K3.out H0.out HIO.out PE.out, CHK2.out]; rfl, below_next B1.out D4.out⟩
        · have PE := hide hp
          go_wp2_with (first | (go_at_call 6; refine (HP.out _ (HL.out.below D1.out)).mono ?_; rintro r W2 ⟨rfl, be⟩; have D2 := hide (below_next D1.out be); clear be) | ((with_reducible refine at_list ?_); refine wpList_loadS ATr _ rfl w.heap.size rfl C CZ.out 30 R1.out (by rfl) ?_))
          go_ret
          exact ⟨by rw [K2.out H0.out HIO.out PE.out]; rfl, below_next B1.out D2.out⟩
  · have H0 := hide h0
    go_wp2_with (first | (go_at_call 18; refine (HT.out _ HL.out).mono ?_; rintro r W1 ⟨rfl, be⟩; have D1 := hide be; clear be) | ((with_reducible refine at_list ?_); refine wpList_loadS ATr _ rfl w.heap.size rfl C CZ.out 30 R0.out (by rfl) ?_))
    go_ret
    exact ⟨by rw [K0.out H0.out]; rfl, below_next B1.out D1.out⟩
end
end Go.Proofs.Ytkbfcfmjbgnhcaa
