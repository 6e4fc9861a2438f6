/- tx.Paid and the document's Paid: their contracts. -/
import Derived.Test.YtkbfcfmjbgnhcaaKyc
namespace Go.Proofs.Ytkbfcfmjbgnhcaa
open Go.RowKit
open Go.Deep
set_option linter.unusedVariables false
/-- What outputs pay, behind those that pay n. -/
def paidR (n : Nat) : List Tu → Nat × Int
  | [] => (n, 0)
  | x :: r => if 1000000 < x.val.toNat + n then (0, 103) else paidR (n + x.val.toNat) r
def Tm.paid (m : Tm) : Nat × Int := paidR 0 m.outs
theorem paidR_no (L : List Tu) (k A : Nat) (h : k < L.length) (hq : 1000000 < L[k].val.toNat + A) : paidR A (L.drop k) = (0, 103) := by
  rw [List.drop_eq_getElem_cons h, paidR, if_pos hq]
theorem paidR_yes (L : List Tu) (k A : Nat) (h : k < L.length) (hq : ¬ 1000000 < L[k].val.toNat + A) : paidR A (L.drop k) = paidR (A + L[k].val.toNat) (L.drop (k + 1)) := by
  rw [List.drop_eq_getElem_cons h, paidR, if_neg hq]
section
set_option maxRecDepth 10000
set_option maxHeartbeats 4000000
theorem paid_any (m : Tm) (ai : Option Addr) (ci : Nat) (ao : Option Addr) (co : Nat) (w : World) (hl : LT w m ai ci ao co) (hf : m.fit) : Calls Try.prog 5 #[.agg (m.cells ai ci ao co)] w fun e w' => e = .returned (.tuple #[.int .u64 (m.paid.1 : Int), .int .i64 m.paid.2]) ∧ Below w.heap.size w w' := by
  have b1 := (Below.refl w.heap.size w).alloc (Nat.le_refl _) (.cells (m.cells ai ci ao co) 26)
  have r1 := heap_alloc_last w (.cells (m.cells ai ci ao co) 26)
  have c1 : (w.alloc (.cells (m.cells ai ci ao co) 26)).cell? ⟨w.heap.size, 2, none⟩ = some (.slice ao m.outs.length co) := by rw [cell_of_row _ _ _ _ _ _ r1]; rfl
  have HF := hide hf
  have HL := hide (hl.below b1)
  have B1 := hide b1
  clear hf hl b1 r1
  generalize m.cells ai ci ao co = C at *
  unfold Tm.paid
  go_enter Try.func5, Try.ntmps5
  go_upto_region 1 with ((with_reducible refine at_list ?_); refine wpList_boxA rfl _ rfl C rfl ?_)
  generalize w.alloc (.cells C 26) = W1 at *
  go_upto_region 3 with fail
  clear c1
  go_loopw [4, 10] (fun s i wr => ∃ k A : Nat, k ≤ m.outs.length ∧ i = .int .i64 (k : Int) ∧ s = .int .u64 (A : Int) ∧ Hid ((A ≤ 1000000 ∧ paidR A (m.outs.drop k) = paidR 0 m.outs) ∧ Below W1.heap.size W1 wr)) (fun _ i _ => (m.outs.length - intOf i).toNat)
  case atStart => exact ⟨0, 0, Nat.zero_le _, rfl, rfl, ⟨by omega, rfl⟩, Below.refl _ _⟩
  case round =>
    obtain ⟨k, A, hk, rfl, rfl, J⟩ := hrel
    by_cases hlt : k < m.outs.length
    · have h1 : (k : Int) < (m.outs.length : Int) := by omega
      have h2 : (0 : Int) ≤ (k : Int) := by omega
      have h5 := HF.out.o
      have e1 : IntKind.i64.wrap ((k : Int) + 1) = k + 1 := wrapI _ (by omega) (by omega)
      have KK := hide (And.intro (show k + 1 ≤ m.outs.length by omega) (show ((m.outs.length : Int) - ((k : Int) + 1)).toNat < ((m.outs.length : Int) - (k : Int)).toNat by omega))
      obtain ⟨ga, oa, rfl⟩ := HL.out.o.base (by omega)
      have RG : Hid (wr.rangeAt ga (oa + k * 2) m.outs[k].cells) := (HL.out.below J.out.2).o.range k hlt
      have PN := hide (fun h => (paidR_no m.outs k A hlt h).symm.trans J.out.1.2)
      have PY := hide (fun h => (paidR_yes m.outs k A hlt h).symm.trans J.out.1.2)
      have JB := hide J.out.2
      have hA := J.out.1.1
      generalize m.outs[k] = x at *
      clear hk hlt h5 J
      go_upto_region 5 with ((with_reducible refine at_list ?_); first | refine wpLoadO _ rfl ga (oa + k * 2) rfl x RG.out (by rfl) ?_ | refine wpList_allocA AO rfl rfl ?_ | refine wpList_store_newA AO rfl _ _ rfl _ rfl x.cells.toArray rfl x.all rfl rfl ?_)
      have c5 : (wr.alloc (.cells x.cells.toArray 52)).cell? ⟨wr.heap.size, 0, none⟩ = some (.int .u64 (x.val.toNat : Int)) := by rw [cell_of_row _ _ _ _ _ _ (heap_alloc_last wr _)]; rfl
      have J2 : Hid (Below W1.heap.size W1 (wr.alloc (.cells x.cells.toArray 52))) := JB.out.alloc JB.out.size _
      generalize wr.alloc (.cells x.cells.toArray 52) = wr2 at *
      clear JB RG
      have hv := x.val.toNat_lt
      generalize x.val.toNat = V at *
      have e2 : IntKind.u64.wrap (1000000 - (A : Int)) = 1000000 - (A : Int) := wrapu _ (by omega) (by omega)
      by_cases hq : 1000000 < V + A
      · have hq2 : (V : Int) > 1000000 - (A : Int) := by omega
        have PN2 := hide (PN.out hq)
        clear hq PN PY hA hv
        go_wp2
        go_ret2
        exact ⟨by rw [← PN2.out]; rfl, B1.out.trans (J2.out.mono B1.out.size)⟩
      · have hq2 : ¬ (V : Int) > 1000000 - (A : Int) := by omega
        have e3 : IntKind.u64.wrap ((A : Int) + (V : Int)) = ((A + V : Nat) : Int) := by rw [wrapu _ (by omega) (by omega)]; omega
        have PY2 := hide (PY.out hq)
        have hA2 := hide (show A + V ≤ 1000000 by omega)
        clear hq PN PY hA hv
        go_wp2
        exact ⟨⟨k + 1, A + V, KK.out.1, by go_num, rfl, ⟨hA2.out, PY2.out⟩, J2.out⟩, by simpa [intOf] using KK.out.2⟩
    · have h1 : ¬ (k : Int) < (m.outs.length : Int) := by omega
      have PE := J.out.1.2
      rw [List.drop_of_length_le (by omega), paidR] at PE
      have PE2 := hide PE
      have JB := hide J.out.2
      clear J PE hk hlt
      go_wp2
      go_ret2
      exact ⟨by rw [← PE2.out]; rfl, B1.out.trans (JB.out.mono B1.out.size)⟩
theorem rpaid_any (m : Tm) (ai : Option Addr) (ci : Nat) (ao : Option Addr) (co : Nat) (w : World) (hl : LR w m ai ci ao co) (hf : m.fit) : Calls Try.prog 6 #[.agg (m.cells ai ci ao co)] w fun e w' => e = .returned (.tuple #[.int .u64 (m.paid.1 : Int), .int .i64 m.paid.2]) ∧ Below w.heap.size w w' := by
  have b1 := (Below.refl w.heap.size w).alloc (Nat.le_refl _) (.cells (m.cells ai ci ao co) 30)
  have r1 := heap_alloc_last w (.cells (m.cells ai ci ao co) 30)
  have c1 : (w.alloc (.cells (m.cells ai ci ao co) 30)).cell? ⟨w.heap.size, 2, none⟩ = some (.slice ao m.outs.length co) := by rw [cell_of_row _ _ _ _ _ _ r1]; rfl
  have HF := hide hf
  have HL := hide (hl.below b1)
  have B1 := hide b1
  clear hf hl b1 r1
  generalize m.cells ai ci ao co = C at *
  unfold Tm.paid
  go_enter Try.func6, Try.ntmps6
  go_upto_region 1 with ((with_reducible refine at_list ?_); refine wpList_boxA rfl _ rfl C rfl ?_)
  generalize w.alloc (.cells C 30) = W1 at *
  go_upto_region 3 with fail
  clear c1
  go_loopw [4, 10] (fun s i wr => ∃ k A : Nat, k ≤ m.outs.length ∧ i = .int .i64 (k : Int) ∧ s = .int .u64 (A : Int) ∧ Hid ((A ≤ 1000000 ∧ paidR A (m.outs.drop k) = paidR 0 m.outs) ∧ Below W1.heap.size W1 wr)) (fun _ i _ => (m.outs.length - intOf i).toNat)
  case atStart => exact ⟨0, 0, Nat.zero_le _, rfl, rfl, ⟨by omega, rfl⟩, Below.refl _ _⟩
  case round =>
    obtain ⟨k, A, hk, rfl, rfl, J⟩ := hrel
    by_cases hlt : k < m.outs.length
    · have h1 : (k : Int) < (m.outs.length : Int) := by omega
      have h2 : (0 : Int) ≤ (k : Int) := by omega
      have h5 := HF.out.o
      have e1 : IntKind.i64.wrap ((k : Int) + 1) = k + 1 := wrapI _ (by omega) (by omega)
      have KK := hide (And.intro (show k + 1 ≤ m.outs.length by omega) (show ((m.outs.length : Int) - ((k : Int) + 1)).toNat < ((m.outs.length : Int) - (k : Int)).toNat by omega))
      obtain ⟨ga, oa, rfl⟩ := HL.out.o.base (by omega)
      have RG : Hid (wr.rangeAt ga (oa + k * 2) m.outs[k].cells) := (HL.out.below J.out.2).o.range k hlt
      have PN := hide (fun h => (paidR_no m.outs k A hlt h).symm.trans J.out.1.2)
      have PY := hide (fun h => (paidR_yes m.outs k A hlt h).symm.trans J.out.1.2)
      have JB := hide J.out.2
      have hA := J.out.1.1
      generalize m.outs[k] = x at *
      clear hk hlt h5 J
      go_upto_region 5 with ((with_reducible refine at_list ?_); first | refine wpLoadOr _ rfl ga (oa + k * 2) rfl x RG.out (by rfl) ?_ | refine wpList_allocA zOr' rfl rfl ?_ | refine wpList_store_newA zOr' rfl _ _ rfl _ rfl x.cells.toArray rfl x.all rfl rfl ?_)
      have c5 : (wr.alloc (.cells x.cells.toArray 53)).cell? ⟨wr.heap.size, 0, none⟩ = some (.int .u64 (x.val.toNat : Int)) := by rw [cell_of_row _ _ _ _ _ _ (heap_alloc_last wr _)]; rfl
      have J2 : Hid (Below W1.heap.size W1 (wr.alloc (.cells x.cells.toArray 53))) := JB.out.alloc JB.out.size _
      generalize wr.alloc (.cells x.cells.toArray 53) = wr2 at *
      clear JB RG
      have hv := x.val.toNat_lt
      generalize x.val.toNat = V at *
      by_cases hq0 : 1000000 < V
      · have hq2 : decide ((V : Int) > 1000000) = true := decide_eq_true (by omega)
        have PN2 := hide (PN.out (by omega))
        clear hq0 PN PY hA hv
        go_wp2
        go_ret2
        exact ⟨by rw [← PN2.out]; rfl, B1.out.trans (J2.out.mono B1.out.size)⟩
      · have hq1 : decide ((V : Int) > 1000000) = false := decide_eq_false (by omega)
        have e3 : IntKind.u64.wrap ((A : Int) + (V : Int)) = ((A + V : Nat) : Int) := by rw [wrapu _ (by omega) (by omega)]; omega
        by_cases hq : 1000000 < V + A
        · have hq2 : decide (((A + V : Nat) : Int) > 1000000) = true := decide_eq_true (by omega)
          have PN2 := hide (PN.out hq)
          clear hq hq0 PN PY hA hv
          generalize A + V = S at *
          go_wp2
          go_ret2
          exact ⟨by rw [← PN2.out]; rfl, B1.out.trans (J2.out.mono B1.out.size)⟩
        · have hq2 : decide (((A + V : Nat) : Int) > 1000000) = false := decide_eq_false (by omega)
          have PY2 := hide (PY.out hq)
          have hA2 := hide (show A + V ≤ 1000000 by omega)
          clear hq hq0 PN PY hA hv
          generalize A + V = S at *
          go_wp2
          exact ⟨⟨k + 1, S, KK.out.1, by go_num, rfl, ⟨hA2.out, PY2.out⟩, J2.out⟩, by simpa [intOf] using KK.out.2⟩
    · have h1 : ¬ (k : Int) < (m.outs.length : Int) := by omega
      have PE := J.out.1.2
      rw [List.drop_of_length_le (by omega), paidR] at PE
      have PE2 := hide PE
      have JB := hide J.out.2
      clear J PE hk hlt
      go_wp2
      go_ret2
      exact ⟨by rw [← PE2.out]; rfl, B1.out.trans (JB.out.mono B1.out.size)⟩
end
end Go.Proofs.Ytkbfcfmjbgnhcaa
