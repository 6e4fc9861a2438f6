/- The document's Told: its contract. -/
import Derived.Test.YtkbfcfmjbgnhcaaKyb
namespace Go.Proofs.Ytkbfcfmjbgnhcaa
open Go.RowKit
open Go.Deep
set_option linter.unusedVariables false
section
set_option maxRecDepth 10000
set_option maxHeartbeats 4000000
theorem rtold_any (m : Tm) (ai : Option Addr) (ci : Nat) (ao : Option Addr) (co : Nat) (w : World) (hl : LR w m ai ci ao co) (hf : m.fit) : Calls Try.prog 18 #[.agg (m.cells ai ci ao co)] w fun e w' => e = .returned (.int .i64 m.toldE) ∧ Below w.heap.size w w' := by
  have b1 := (Below.refl w.heap.size w).alloc (Nat.le_refl _) (.cells (m.cells ai ci ao co) 30)
  have r1 := heap_alloc_last w (.cells (m.cells ai ci ao co) 30)
  have c1 : (w.alloc (.cells (m.cells ai ci ao co) 30)).cell? ⟨w.heap.size, 1, none⟩ = some (.slice ai m.ins.length ci) := by rw [cell_of_row _ _ _ _ _ _ r1]; rfl
  have R1 := hide r1
  have HF := hide hf
  have HL := hide (hl.below b1)
  have B1 := hide b1
  clear hf hl b1 r1
  generalize hC : m.cells ai ci ao co = C at *
  go_enter Try.func18, Try.ntmps18
  go_upto_region 1 with ((with_reducible refine at_list ?_); refine wpList_boxA rfl _ rfl C rfl ?_)
  generalize w.alloc (.cells C 30) = W1 at *
  go_upto_region 2 with fail
  clear c1
  go_loopw [10] (fun i wr => ∃ k : Nat, k ≤ m.ins.length ∧ i = .int .i64 (k : Int) ∧ Hid ((m.ins.take k).any longI = false ∧ Below W1.heap.size W1 wr)) (fun i _ => (m.ins.length - intOf i).toNat)
  case atStart => exact ⟨0, Nat.zero_le _, rfl, by simp, Below.refl _ _⟩
  case round =>
    obtain ⟨k, hk, rfl, J⟩ := hrel
    by_cases hlt : k < m.ins.length
    · have h1 : (k : Int) < (m.ins.length : Int) := by omega
      have h2 : (0 : Int) ≤ (k : Int) := by omega
      have h5 := HF.out.i
      have e1 : IntKind.i64.wrap ((k : Int) + 1) = k + 1 := wrapI _ (by omega) (by omega)
      have KK := hide (And.intro (show k + 1 ≤ m.ins.length by omega) (show ((m.ins.length : Int) - ((k : Int) + 1)).toNat < ((m.ins.length : Int) - (k : Int)).toNat by omega))
      obtain ⟨ga, oa, rfl⟩ := HL.out.i.base (by omega)
      have RG : Hid (wr.rangeAt ga (oa + k * 35) m.ins[k].cells) := (HL.out.below J.out.2).i.range k hlt
      have AH := hide (any_here longI m.ins k hlt)
      have AT := hide (fun h => any_take longI m.ins k hlt J.out.1 h)
      have JB := hide J.out.2
      generalize m.ins[k] = x at *
      clear hk hlt h5 J
      go_upto_region 4 with ((with_reducible refine at_list ?_); first | refine wpLoadIr _ rfl ga (oa + k * 35) rfl x RG.out (by rfl) ?_ | refine wpList_allocA zAr' rfl rfl ?_ | refine wpList_store_newA zAr' rfl _ _ rfl _ rfl x.cells.toArray x.size x.all rfl rfl ?_)
      have c5 : (wr.alloc (.cells x.cells.toArray 50)).cell? ⟨wr.heap.size, 33, none⟩ = some (.string x.key) := by rw [cell_of_row _ _ _ _ _ _ (heap_alloc_last wr _)]; exact x.at33
      have J2 : Hid (Below W1.heap.size W1 (wr.alloc (.cells x.cells.toArray 50))) := JB.out.alloc JB.out.size _
      generalize wr.alloc (.cells x.cells.toArray 50) = wr2 at *
      clear JB RG
      by_cases hq : 520 < x.key.size
      · have hq2 : (x.key.size : Int) > 520 := by omega
        have AH2 := hide (AH.out (decide_eq_true hq))
        clear hq AH AT
        go_wp2
        go_ret
        exact ⟨by rw [Tm.toldE, if_pos AH2.out]; rfl, B1.out.trans (J2.out.mono B1.out.size)⟩
      · have hq2 : ¬ (x.key.size : Int) > 520 := by omega
        have AT2 := hide (AT.out (decide_eq_false hq))
        clear hq AH AT
        go_wp2
        exact ⟨⟨k + 1, KK.out.1, by go_num, AT2.out, J2.out⟩, by simpa [intOf] using KK.out.2⟩
    · have h1 : ¬ (k : Int) < (m.ins.length : Int) := by omega
      have NI := hide J.out.1
      rw [List.take_of_length_le (by omega)] at NI
      have L2 := hide ((HL.out.below J.out.2))
      have R2 := hide ((J.out.2.block _ (lt_heap R1.out)).trans R1.out)
      have c4 : wr.cell? ⟨w.heap.size, 2, none⟩ = some (.slice ao m.outs.length co) := by rw [cell_of_row _ _ _ _ _ _ R2.out, ← hC]; rfl
      have B3 := hide (B1.out.trans (J.out.2.mono B1.out.size))
      clear hk hlt J HL R1 B1
      go_upto_region 8 with fail
      clear c4 h1
      obtain ⟨W2, hW2⟩ : ∃ x, x = wr := ⟨_, rfl⟩
      subst hW2
      go_loopw [22] (fun i wr => ∃ k : Nat, k ≤ m.outs.length ∧ i = .int .i64 (k : Int) ∧ Hid ((m.outs.take k).any longO = false ∧ Below W2.heap.size W2 wr)) (fun i _ => (m.outs.length - intOf i).toNat)
      case atStart => exact ⟨0, Nat.zero_le _, rfl, by simp, Below.refl _ _⟩
      case round =>
        obtain ⟨k, hk, rfl, J⟩ := hrel
        by_cases hlt : k < m.outs.length
        · have h1 : (k : Int) < (m.outs.length : Int) := by omega
          have h2 : (0 : Int) ≤ (k : Int) := by omega
          have h5 := HF.out.o
          have e1 : IntKind.i64.wrap ((k : Int) + 1) = k + 1 := wrapI _ (by omega) (by omega)
          have KK := hide (And.intro (show k + 1 ≤ m.outs.length by omega) (show ((m.outs.length : Int) - ((k : Int) + 1)).toNat < ((m.outs.length : Int) - (k : Int)).toNat by omega))
          obtain ⟨ga, oa, rfl⟩ := L2.out.o.base (by omega)
          have RG : Hid (wr.rangeAt ga (oa + k * 2) m.outs[k].cells) := (L2.out.below J.out.2).o.range k hlt
          have AH := hide (any_here longO m.outs k hlt)
          have AT := hide (fun h => any_take longO m.outs k hlt J.out.1 h)
          have JB := hide J.out.2
          generalize m.outs[k] = x at *
          clear hk hlt h5 J
          go_upto_region 10 with ((with_reducible refine at_list ?_); first | refine wpLoadOr _ rfl ga (oa + k * 2) rfl x RG.out (by rfl) ?_ | refine wpList_allocA zOr' rfl rfl ?_ | refine wpList_store_newA zOr' rfl _ _ rfl _ rfl x.cells.toArray rfl x.all rfl rfl ?_)
          have c5 : (wr.alloc (.cells x.cells.toArray 53)).cell? ⟨wr.heap.size, 1, none⟩ = some (.string x.lock) := by rw [cell_of_row _ _ _ _ _ _ (heap_alloc_last wr _)]; rfl
          have J2 : Hid (Below W2.heap.size W2 (wr.alloc (.cells x.cells.toArray 53))) := JB.out.alloc JB.out.size _
          generalize wr.alloc (.cells x.cells.toArray 53) = wr2 at *
          clear JB RG
          by_cases hq : 520 < x.lock.size
          · have hq2 : (x.lock.size : Int) > 520 := by omega
            have AH2 := hide (AH.out (decide_eq_true hq))
            clear hq AH AT
            go_wp2
            go_ret
            exact ⟨by rw [Tm.toldE, if_neg (by rw [NI.out]; decide), if_pos AH2.out]; rfl, B3.out.trans (J2.out.mono B3.out.size)⟩
          · have hq2 : ¬ (x.lock.size : Int) > 520 := by omega
            have AT2 := hide (AT.out (decide_eq_false hq))
            clear hq AH AT
            go_wp2
            exact ⟨⟨k + 1, KK.out.1, by go_num, AT2.out, J2.out⟩, by simpa [intOf] using KK.out.2⟩
        · have h1 : ¬ (k : Int) < (m.outs.length : Int) := by omega
          have NO := hide J.out.1
          rw [List.take_of_length_le (by omega)] at NO
          have R3 := hide ((J.out.2.block _ (lt_heap R2.out)).trans R2.out)
          have B4 := hide (B3.out.trans (J.out.2.mono B3.out.size))
          have HZ : Hid (Calls Try.prog 28 #[.agg C] wr fun e w' => e = .returned (.string (txt m.bytes)) ∧ Below wr.heap.size wr w') := by
            show Calls _ _ _ _ _
            rw [← hC]
            exact tbytesR_any m ai ci ao co wr (L2.out.below J.out.2) HF.out (m.small HF.out NI.out NO.out)
          have HCs : Hid (C.size = 4) := by show _ = _; rw [← hC]; rfl
          have hT : m.toldE = if 4096 < m.bytes.length then 101 else 0 := by rw [Tm.toldE, if_neg (by rw [NI.out]; decide), if_neg (by rw [NO.out]; decide)]
          by_cases hq : 4096 < m.bytes.length
          · have hq2 : (m.bytes.length : Int) > 4096 := by omega
            rw [if_pos hq] at hT
            have HTT := hide hT
            clear hq hT hk hlt J NI NO
            have hz : (txt m.bytes).size = m.bytes.length := txt_sz _
            rw [← hz] at hq2
            clear hz
            generalize txt m.bytes = N at *
            go_wp2_with (first | (go_at_call 28; with_reducible refine HZ.out.mono ?_; rintro e W3 ⟨rfl, b3⟩; have B5 := hide (below_next B4.out b3); clear b3) | ((with_reducible refine at_list ?_); refine wpList_loadS ATr _ rfl w.heap.size rfl C HCs.out 30 R3.out (by rfl) ?_))
            go_ret
            exact ⟨by rw [HTT.out]; rfl, B5.out⟩
          · have hq2 : decide ((m.bytes.length : Int) > 4096) = false := decide_eq_false (by omega)
            rw [if_neg hq] at hT
            have HTT := hide hT
            clear hq hT hk hlt J NI NO
            have hz : (txt m.bytes).size = m.bytes.length := txt_sz _
            rw [← hz] at hq2
            clear hz
            generalize txt m.bytes = N at *
            go_wp2_with (first | (go_at_call 28; with_reducible refine HZ.out.mono ?_; rintro e W3 ⟨rfl, b3⟩; have B5 := hide (below_next B4.out b3); clear b3) | ((with_reducible refine at_list ?_); refine wpList_loadS ATr _ rfl w.heap.size rfl C HCs.out 30 R3.out (by rfl) ?_))
            go_ret
            exact ⟨by rw [HTT.out]; rfl, B5.out⟩
end
end Go.Proofs.Ytkbfcfmjbgnhcaa
