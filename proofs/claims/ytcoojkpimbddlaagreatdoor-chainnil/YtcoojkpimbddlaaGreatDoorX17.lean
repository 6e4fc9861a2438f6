/- The document's lay and Count of layer 10: their contracts. The law's given: its contract. tx.Size, tx.mayBeTold: their contracts. tx.mayBeTold: its contract. -/
import Derived.Test.YtcoojkpimbddlaaGreatDoorX07
namespace Go.Proofs.YtcoojkpimbddlaaGreatDoor
open Go.RowKit
open Go.Deep
set_option linter.unusedVariables false
section
set_option maxRecDepth 10000
set_option maxHeartbeats 4000000
set_option maxHeartbeats 400000 in
end
section
set_option maxRecDepth 10000
set_option maxHeartbeats 4000000
end
section
set_option maxRecDepth 10000
set_option maxHeartbeats 4000000
theorem size_any (m : Tm) (ai : Option Addr) (ci : Nat) (ao : Option Addr) (co : Nat) (w : World) (hl : LT w m ai ci ao co) (hf : m.fit) (hN : m.bytes.length ≤ 9223372036854775807) : Calls Tryz.prog 149 #[.agg (m.cells ai ci ao co)] w fun e w' => e = .returned (.int .i64 m.bytes.length) ∧ Below w.heap.size w w' := by
  have b1 := (Below.refl w.heap.size w).alloc (Nat.le_refl _) (.cells (m.cells ai ci ao co) 152)
  have r1 := heap_alloc_last w (.cells (m.cells ai ci ao co) 152)
  have c1 : (w.alloc (.cells (m.cells ai ci ao co) 152)).cell? ⟨w.heap.size, 1, none⟩ = some (.slice ai m.ins.length ci) := by rw [cell_of_row _ _ _ _ _ _ r1]; rfl
  have c2 : (w.alloc (.cells (m.cells ai ci ao co) 152)).cell? ⟨w.heap.size, 2, none⟩ = some (.slice ao m.outs.length co) := by rw [cell_of_row _ _ _ _ _ _ r1]; rfl
  have hb := m.bytes_len
  have fi := hf.i
  have fo := hf.o
  have HC : Hid (∀ W, Calls Tryz.prog 214 #[.int .i64 (m.ins.length : Int)] W fun e w' => e = .returned (.int .i64 (clong m.ins.length)) ∧ w' = W) := fun W => tcountLong_any _ (by omega) W
  have HD : Hid (∀ W, Calls Tryz.prog 214 #[.int .i64 (m.outs.length : Int)] W fun e w' => e = .returned (.int .i64 (clong m.outs.length)) ∧ w' = W) := fun W => tcountLong_any _ (by omega) W
  have p1 := clong_pos m.ins.length
  have p2 := clong_pos m.outs.length
  have q1 := clong_le m.ins.length
  have q2 := clong_le m.outs.length
  have e1 : IntKind.i64.wrap (8 + clong m.ins.length) = 8 + clong m.ins.length := wrapI _ (by omega) (by omega)
  have e2 : IntKind.i64.wrap (8 + clong m.ins.length + clong m.outs.length) = 8 + clong m.ins.length + clong m.outs.length := wrapI _ (by omega) (by omega)
  have HF := hide hf
  have HN := hide hN
  have HB := hide hb
  have PQ := hide (And.intro (And.intro p1 q1) (And.intro p2 q2))
  have HL := hide (hl.below b1)
  have B1 := hide b1
  clear p1 p2 q1 q2 hb hf hN fi fo hl b1 r1
  unfold Tm.cells at *
  go_enter Tryz.func149, Tryz.ntmps149
  go_upto_region 1 with fail
  generalize w.alloc (.cells #[.int .u32 (m.ver.toNat : Int), .slice ai m.ins.length ci, .slice ao m.outs.length co, .int .u32 (m.time.toNat : Int)] 152) = W0 at *
  go_quiet (first | (go_at_call 214; first | exact Calls.quiet_of_same (HC.out _) | exact Calls.quiet_of_same (HD.out _)))
  have c3 : Hid ((W0.drewN nq).cell? ⟨w.heap.size, 2, none⟩ = some (.slice ao m.outs.length co)) := c2
  have c4 : (W0.drewN nq).cell? ⟨w.heap.size, 1, none⟩ = some (.slice ai m.ins.length ci) := c1
  have L1 : Hid (LT (W0.drewN nq) m ai ci ao co) := HL.out.below (below_drewN (Below.refl _ _) nq)
  have B2 : Hid (Below w.heap.size w (W0.drewN nq)) := below_drewN B1.out nq
  generalize W0.drewN nq = W1 at *
  have HT : Hid (∀ x : ByteArray, clong x.size + x.size ≤ 9223372036854775807 → ∀ W, Calls Tryz.prog 215 #[.string x] W fun e w' => e = .returned (.int .i64 (clong x.size + x.size)) ∧ w' = W) := fun x hx W => textLong_any x hx W
  clear c1 c2 HL B1 e1 e2 HC HD
  obtain ⟨sz, hsz⟩ : ∃ s : Int, s = 8 + clong m.ins.length + clong m.outs.length := ⟨_, rfl⟩
  rw [← hsz]
  rw [← hsz] at HB
  have SZ : Hid (0 ≤ sz) := by have := PQ.out; show 0 ≤ sz; omega
  clear hsz PQ
  go_upto_region 3 with fail
  clear c4
  go_loopw [3, 21] (fun s i wr => ∃ k : Nat, k ≤ m.ins.length ∧ i = .int .i64 (k : Int) ∧ s = .int .i64 (sz + ((insL (m.ins.take k)).length : Int)) ∧ Hid (Below W1.heap.size W1 wr)) (fun _ i _ => (m.ins.length - intOf i).toNat)
  case atStart => exact ⟨0, Nat.zero_le _, rfl, by simp [insL], Below.refl _ _⟩
  case round =>
    obtain ⟨k, hk, rfl, rfl, J⟩ := hrel
    by_cases hlt : k < m.ins.length
    · have h1 : (k : Int) < (m.ins.length : Int) := by omega
      have h2 : (0 : Int) ≤ (k : Int) := by omega
      have h5 := HF.out.i
      have e1 : IntKind.i64.wrap ((k : Int) + 1) = k + 1 := wrapI _ (by omega) (by omega)
      have KK := hide (And.intro (show k + 1 ≤ m.ins.length by omega) (show ((m.ins.length : Int) - ((k : Int) + 1)).toNat < ((m.ins.length : Int) - (k : Int)).toNat by omega))
      obtain ⟨ga, oa, rfl⟩ := L1.out.i.base (by omega)
      have RG : Hid (wr.rangeAt ga (oa + k * 35) m.ins[k].cells) := (L1.out.below J.out).i.range k hlt
      have hx := m.ins[k].bytes_len
      have ht := congrArg List.length (insL_take m.ins k hlt)
      rw [List.length_append] at ht
      have hle := insL_le m.ins (k + 1)
      have hn := HN.out
      have hbb := HB.out
      have hs0 := SZ.out
      have g1 := clong_pos m.ins[k].key.size
      have HT2 := hide (HT.out m.ins[k].key (by omega))
      have e3 : IntKind.i64.wrap (36 + (clong m.ins[k].key.size + m.ins[k].key.size)) = 36 + (clong m.ins[k].key.size + m.ins[k].key.size) := wrapI _ (by omega) (by omega)
      have e4 : IntKind.i64.wrap (36 + (clong m.ins[k].key.size + m.ins[k].key.size) + 4) = 36 + (clong m.ins[k].key.size + m.ins[k].key.size) + 4 := wrapI _ (by omega) (by omega)
      have e5 : IntKind.i64.wrap (sz + ((insL (m.ins.take k)).length : Int) + (36 + (clong m.ins[k].key.size + m.ins[k].key.size) + 4)) = sz + ((insL (m.ins.take (k + 1))).length : Int) := by rw [wrapI _ (by omega) (by omega)]; omega
      clear h5 hx ht hle hn hbb hs0 g1
      generalize m.ins[k] = x at *
      clear hk hlt
      go_upto_region 5 with ((with_reducible refine at_list ?_); first | refine wpLoadI _ rfl ga (oa + k * 35) rfl x RG.out (by rfl) ?_ | refine wpList_allocA AI rfl rfl ?_ | refine wpList_store_newA AI rfl _ _ rfl _ rfl x.cells.toArray x.size x.all rfl rfl ?_)
      have c5 : (wr.alloc (.cells x.cells.toArray 162)).cell? ⟨wr.heap.size, 33, none⟩ = some (.string x.key) := by rw [cell_of_row _ _ _ _ _ _ (heap_alloc_last wr _)]; exact x.at33
      have J2 : Hid (Below W1.heap.size W1 (wr.alloc (.cells x.cells.toArray 162))) := J.out.alloc J.out.size _
      generalize wr.alloc (.cells x.cells.toArray 162) = wr2 at *
      clear J RG
      go_wp2_with (go_at_call 215; with_reducible refine (HT2.out _).mono ?_; rintro e W3 ⟨rfl, rfl⟩)
      exact ⟨⟨k + 1, KK.out.1, by go_num, rfl, J2.out⟩, by simpa [intOf] using KK.out.2⟩
    · have h1 : ¬ (k : Int) < (m.ins.length : Int) := by omega
      rw [List.take_of_length_le (by omega)]
      have L2 := hide ((L1.out.below J.out).o)
      have c4 : wr.cell? ⟨w.heap.size, 2, none⟩ = some (.slice ao m.outs.length co) := by rw [← c3.out]; exact J.out.cell (p := ⟨w.heap.size, 2, none⟩) (block_lt_of_cell c3.out)
      have B3 := hide (B2.out.trans (J.out.mono B2.out.size))
      clear hk hlt J L1 c3 B2
      go_upto_region 8 with fail
      clear c4 h1
      obtain ⟨sy, hsy⟩ : ∃ s : Int, s = sz + ((insL m.ins).length : Int) := ⟨_, rfl⟩
      rw [← hsy]
      rw [← hsy] at HB
      have SY : Hid (0 ≤ sy) := by have := SZ.out; show 0 ≤ sy; omega
      clear hsy SZ
      obtain ⟨W2, hW2⟩ : ∃ x, x = wr := ⟨_, rfl⟩
      subst hW2
      go_loopw [3, 36] (fun s i wr => ∃ k : Nat, k ≤ m.outs.length ∧ i = .int .i64 (k : Int) ∧ s = .int .i64 (sy + ((outsL (m.outs.take k)).length : Int)) ∧ Hid (Below W2.heap.size W2 wr)) (fun _ i _ => (m.outs.length - intOf i).toNat)
      case atStart => exact ⟨0, Nat.zero_le _, rfl, by simp [outsL], Below.refl _ _⟩
      case round =>
        obtain ⟨k, hk, rfl, rfl, J⟩ := hrel
        by_cases hlt : k < m.outs.length
        · have h1 : (k : Int) < (m.outs.length : Int) := by omega
          have h2 : (0 : Int) ≤ (k : Int) := by omega
          have h5 := HF.out.o
          have e1 : IntKind.i64.wrap ((k : Int) + 1) = k + 1 := wrapI _ (by omega) (by omega)
          have KK := hide (And.intro (show k + 1 ≤ m.outs.length by omega) (show ((m.outs.length : Int) - ((k : Int) + 1)).toNat < ((m.outs.length : Int) - (k : Int)).toNat by omega))
          obtain ⟨ga, oa, rfl⟩ := L2.out.base (by omega)
          have RG : Hid (wr.rangeAt ga (oa + k * 2) m.outs[k].cells) := (L2.out.below J.out).range k hlt
          have hx := m.outs[k].bytes_len
          have ht := congrArg List.length (outsL_take m.outs k hlt)
          rw [List.length_append] at ht
          have hle := outsL_le m.outs (k + 1)
          have hn := HN.out
          have hbb := HB.out
          have hs0 := SY.out
          have g1 := clong_pos m.outs[k].lock.size
          have HT2 := hide (HT.out m.outs[k].lock (by omega))
          have e3 : IntKind.i64.wrap (8 + (clong m.outs[k].lock.size + m.outs[k].lock.size)) = 8 + (clong m.outs[k].lock.size + m.outs[k].lock.size) := wrapI _ (by omega) (by omega)
          have e5 : IntKind.i64.wrap (sy + ((outsL (m.outs.take k)).length : Int) + (8 + (clong m.outs[k].lock.size + m.outs[k].lock.size))) = sy + ((outsL (m.outs.take (k + 1))).length : Int) := by rw [wrapI _ (by omega) (by omega)]; omega
          clear h5 hx ht hle hn hbb hs0 g1
          generalize m.outs[k] = x at *
          clear hk hlt
          go_upto_region 10 with ((with_reducible refine at_list ?_); first | refine wpLoadO _ rfl ga (oa + k * 2) rfl x RG.out (by rfl) ?_ | refine wpList_allocA AO rfl rfl ?_ | refine wpList_store_newA AO rfl _ _ rfl _ rfl x.cells.toArray rfl x.all rfl rfl ?_)
          have c5 : (wr.alloc (.cells x.cells.toArray 156)).cell? ⟨wr.heap.size, 1, none⟩ = some (.string x.lock) := by rw [cell_of_row _ _ _ _ _ _ (heap_alloc_last wr _)]; rfl
          have J2 : Hid (Below W2.heap.size W2 (wr.alloc (.cells x.cells.toArray 156))) := J.out.alloc J.out.size _
          generalize wr.alloc (.cells x.cells.toArray 156) = wr2 at *
          clear J RG
          go_wp2_with (go_at_call 215; with_reducible refine (HT2.out _).mono ?_; rintro e W3 ⟨rfl, rfl⟩)
          exact ⟨⟨k + 1, KK.out.1, by go_num, rfl, J2.out⟩, by simpa [intOf] using KK.out.2⟩
        · have h1 : ¬ (k : Int) < (m.outs.length : Int) := by omega
          rw [List.take_of_length_le (by omega), ← HB.out]
          clear hk hlt
          go_wp2
          go_ret
          exact ⟨rfl, B3.out.trans (J.out.mono B3.out.size)⟩
end
def longI (x : Ti) : Bool := decide (520 < x.key.size)
def longO (x : Tu) : Bool := decide (520 < x.lock.size)
def Tm.toldE (m : Tm) : Int := if m.ins.any longI = true then 100 else if m.outs.any longO = true then 100 else if 4096 < m.bytes.length then 101 else 0
theorem any_take {α : Type} (q : α → Bool) (L : List α) (k : Nat) (h : k < L.length) (h1 : (L.take k).any q = false) (h2 : q L[k] = false) : (L.take (k + 1)).any q = false := by
  rw [← List.take_append_getElem h, List.any_append, h1]
  simp [h2]
theorem any_here {α : Type} (q : α → Bool) (L : List α) (k : Nat) (h : k < L.length) (h2 : q L[k] = true) : L.any q = true := List.any_eq_true.2 ⟨L[k], List.getElem_mem h, h2⟩
theorem insL_small (L : List Ti) (h : L.any longI = false) : (insL L).length ≤ L.length * 569 := by
  induction L with
  | nil => simp [insL]
  | cons x r ih =>
    simp only [List.any_cons, Bool.or_eq_false_iff] at h
    have h1 : ¬ 520 < x.key.size := of_decide_eq_false h.1
    have h2 := x.bytes_len
    have h3 := clong_le x.key.size
    have h4 := ih h.2
    have h5 : insL (x :: r) = x.bytes ++ insL r := by simp [insL]
    rw [h5, List.length_append, List.length_cons]
    omega
theorem outsL_small (L : List Tu) (h : L.any longO = false) : (outsL L).length ≤ L.length * 537 := by
  induction L with
  | nil => simp [outsL]
  | cons x r ih =>
    simp only [List.any_cons, Bool.or_eq_false_iff] at h
    have h1 : ¬ 520 < x.lock.size := of_decide_eq_false h.1
    have h2 := x.bytes_len
    have h3 := clong_le x.lock.size
    have h4 := ih h.2
    have h5 : outsL (x :: r) = x.bytes ++ outsL r := by simp [outsL]
    rw [h5, List.length_append, List.length_cons]
    omega
theorem Tm.small (m : Tm) (hf : m.fit) (h1 : m.ins.any longI = false) (h2 : m.outs.any longO = false) : m.bytes.length ≤ 9223372036854775807 := by
  have h3 := m.bytes_len
  have h4 := insL_small _ h1
  have h5 := outsL_small _ h2
  have h6 := clong_le m.ins.length
  have h7 := clong_le m.outs.length
  have h8 := hf.i
  have h9 := hf.o
  omega
section
set_option maxRecDepth 10000
set_option maxHeartbeats 4000000
theorem told_any (m : Tm) (ai : Option Addr) (ci : Nat) (ao : Option Addr) (co : Nat) (w : World) (hl : LT w m ai ci ao co) (hf : m.fit) : Calls Tryz.prog 210 #[.agg (m.cells ai ci ao co)] w fun e w' => e = .returned (.int .i64 m.toldE) ∧ Below w.heap.size w w' := by
  have b1 := (Below.refl w.heap.size w).alloc (Nat.le_refl _) (.cells (m.cells ai ci ao co) 152)
  have r1 := heap_alloc_last w (.cells (m.cells ai ci ao co) 152)
  have c1 : (w.alloc (.cells (m.cells ai ci ao co) 152)).cell? ⟨w.heap.size, 1, none⟩ = some (.slice ai m.ins.length ci) := by rw [cell_of_row _ _ _ _ _ _ r1]; rfl
  have R1 := hide r1
  have HF := hide hf
  have HL := hide (hl.below b1)
  have B1 := hide b1
  clear hf hl b1 r1
  generalize hC : m.cells ai ci ao co = C at *
  go_enter Tryz.func210, Tryz.ntmps210
  go_upto_region 1 with ((with_reducible refine at_list ?_); refine wpList_boxA rfl _ rfl C rfl ?_)
  generalize w.alloc (.cells C 152) = W1 at *
  go_upto_region 2 with fail
  clear c1
  go_loopw [10] (fun i wr => ∃ k : Nat, k ≤ m.ins.length ∧ i = .int .i64 (k : Int) ∧ Hid ((m.ins.take k).any longI = false ∧ Below W1.heap.size W1 wr)) (fun i _ => (m.ins.length - intOf i).toNat)
  case atStart => exact ⟨0, Nat.zero_le _, rfl, by simp, Below.refl _ _⟩
  case round =>
    obtain ⟨k, hk, rfl, J⟩ := hrel
    by_cases hlt : k < m.ins.length
    · have h1 : (k : Int) < (m.ins.length : Int) := by omega
      have h2 : (0 : Int) ≤ (k : Int) := by omega
      have h5 := HF.out.i
      have e1 : IntKind.i64.wrap ((k : Int) + 1) = k + 1 := wrapI _ (by omega) (by omega)
      have KK := hide (And.intro (show k + 1 ≤ m.ins.length by omega) (show ((m.ins.length : Int) - ((k : Int) + 1)).toNat < ((m.ins.length : Int) - (k : Int)).toNat by omega))
      obtain ⟨ga, oa, rfl⟩ := HL.out.i.base (by omega)
      have RG : Hid (wr.rangeAt ga (oa + k * 35) m.ins[k].cells) := (HL.out.below J.out.2).i.range k hlt
      have AH := hide (any_here longI m.ins k hlt)
      have AT := hide (fun h => any_take longI m.ins k hlt J.out.1 h)
      have JB := hide J.out.2
      generalize m.ins[k] = x at *
      clear hk hlt h5 J
      go_upto_region 4 with ((with_reducible refine at_list ?_); first | refine wpLoadI _ rfl ga (oa + k * 35) rfl x RG.out (by rfl) ?_ | refine wpList_allocA AI rfl rfl ?_ | refine wpList_store_newA AI rfl _ _ rfl _ rfl x.cells.toArray x.size x.all rfl rfl ?_)
      have c5 : (wr.alloc (.cells x.cells.toArray 162)).cell? ⟨wr.heap.size, 33, none⟩ = some (.string x.key) := by rw [cell_of_row _ _ _ _ _ _ (heap_alloc_last wr _)]; exact x.at33
      have J2 : Hid (Below W1.heap.size W1 (wr.alloc (.cells x.cells.toArray 162))) := JB.out.alloc JB.out.size _
      generalize wr.alloc (.cells x.cells.toArray 162) = wr2 at *
      clear JB RG
      by_cases hq : 520 < x.key.size
      · have hq2 : (x.key.size : Int) > 520 := by omega
        have AH2 := hide (AH.out (decide_eq_true hq))
        clear hq AH AT
        go_wp2
        go_ret
        exact ⟨by rw [Tm.toldE, if_pos AH2.out]; rfl, B1.out.trans (J2.out.mono B1.out.size)⟩
      · have hq2 : ¬ (x.key.size : Int) > 520 := by omega
        have AT2 := hide (AT.out (decide_eq_false hq))
        clear hq AH AT
        go_wp2
        exact ⟨⟨k + 1, KK.out.1, by go_num, AT2.out, J2.out⟩, by simpa [intOf] using KK.out.2⟩
    · have h1 : ¬ (k : Int) < (m.ins.length : Int) := by omega
      have NI := hide J.out.1
      rw [List.take_of_length_le (by omega)] at NI
      have L2 := hide ((HL.out.below J.out.2))
      have R2 := hide ((J.out.2.block _ (lt_heap R1.out)).trans R1.out)
      have c4 : wr.cell? ⟨w.heap.size, 2, none⟩ = some (.slice ao m.outs.length co) := by rw [cell_of_row _ _ _ _ _ _ R2.out, ← hC]; rfl
      have B3 := hide (B1.out.trans (J.out.2.mono B1.out.size))
      clear hk hlt J HL R1 B1
      go_upto_region 8 with fail
      clear c4 h1
      obtain ⟨W2, hW2⟩ : ∃ x, x = wr := ⟨_, rfl⟩
      subst hW2
      go_loopw [22] (fun i wr => ∃ k : Nat, k ≤ m.outs.length ∧ i = .int .i64 (k : Int) ∧ Hid ((m.outs.take k).any longO = false ∧ Below W2.heap.size W2 wr)) (fun i _ => (m.outs.length - intOf i).toNat)
      case atStart => exact ⟨0, Nat.zero_le _, rfl, by simp, Below.refl _ _⟩
      case round =>
        obtain ⟨k, hk, rfl, J⟩ := hrel
        by_cases hlt : k < m.outs.length
        · have h1 : (k : Int) < (m.outs.length : Int) := by omega
          have h2 : (0 : Int) ≤ (k : Int) := by omega
          have h5 := HF.out.o
          have e1 : IntKind.i64.wrap ((k : Int) + 1) = k + 1 := wrapI _ (by omega) (by omega)
          have KK := hide (And.intro (show k + 1 ≤ m.outs.length by omega) (show ((m.outs.length : Int) - ((k : Int) + 1)).toNat < ((m.outs.length : Int) - (k : Int)).toNat by omega))
          obtain ⟨ga, oa, rfl⟩ := L2.out.o.base (by omega)
          have RG : Hid (wr.rangeAt ga (oa + k * 2) m.outs[k].cells) := (L2.out.below J.out.2).o.range k hlt
          have AH := hide (any_here longO m.outs k hlt)
          have AT := hide (fun h => any_take longO m.outs k hlt J.out.1 h)
          have JB := hide J.out.2
          generalize m.outs[k] = x at *
          clear hk hlt h5 J
          go_upto_region 10 with ((with_reducible refine at_list ?_); first | refine wpLoadO _ rfl ga (oa + k * 2) rfl x RG.out (by rfl) ?_ | refine wpList_allocA AO rfl rfl ?_ | refine wpList_store_newA AO rfl _ _ rfl _ rfl x.cells.toArray rfl x.all rfl rfl ?_)
          have c5 : (wr.alloc (.cells x.cells.toArray 156)).cell? ⟨wr.heap.size, 1, none⟩ = some (.string x.lock) := by rw [cell_of_row _ _ _ _ _ _ (heap_alloc_last wr _)]; rfl
          have J2 : Hid (Below W2.heap.size W2 (wr.alloc (.cells x.cells.toArray 156))) := JB.out.alloc JB.out.size _
          generalize wr.alloc (.cells x.cells.toArray 156) = wr2 at *
          clear JB RG
          by_cases hq : 520 < x.lock.size
          · have hq2 : (x.lock.size : Int) > 520 := by omega
            have AH2 := hide (AH.out (decide_eq_true hq))
            clear hq AH AT
            go_wp2
            go_ret
            exact ⟨by rw [Tm.toldE, if_neg (by rw [NI.out]; decide), if_pos AH2.out]; rfl, B3.out.trans (J2.out.mono B3.out.size)⟩
          · have hq2 : ¬ (x.lock.size : Int) > 520 := by omega
            have AT2 := hide (AT.out (decide_eq_false hq))
            clear hq AH AT
            go_wp2
            exact ⟨⟨k + 1, KK.out.1, by go_num, AT2.out, J2.out⟩, by simpa [intOf] using KK.out.2⟩
        · have h1 : ¬ (k : Int) < (m.outs.length : Int) := by omega
          have NO := hide J.out.1
          rw [List.take_of_length_le (by omega)] at NO
          have R3 := hide ((J.out.2.block _ (lt_heap R2.out)).trans R2.out)
          have B4 := hide (B3.out.trans (J.out.2.mono B3.out.size))
          have HZ : Hid (Calls Tryz.prog 149 #[.agg C] wr fun e w' => e = .returned (.int .i64 m.bytes.length) ∧ Below wr.heap.size wr w') := by
            show Calls _ _ _ _ _
            rw [← hC]
            exact size_any m ai ci ao co wr (L2.out.below J.out.2) HF.out (m.small HF.out NI.out NO.out)
          have HCs : Hid (C.size = 4) := by show _ = _; rw [← hC]; rfl
          have hT : m.toldE = if 4096 < m.bytes.length then 101 else 0 := by rw [Tm.toldE, if_neg (by rw [NI.out]; decide), if_neg (by rw [NO.out]; decide)]
          by_cases hq : 4096 < m.bytes.length
          · have hq2 : (m.bytes.length : Int) > 4096 := by omega
            rw [if_pos hq] at hT
            have HTT := hide hT
            clear hq hT hk hlt J NI NO
            generalize m.bytes.length = N at *
            go_wp2_with (first | (go_at_call 149; with_reducible refine HZ.out.mono ?_; rintro e W3 ⟨rfl, b3⟩; have B5 := hide (below_next B4.out b3); clear b3) | ((with_reducible refine at_list ?_); refine wpList_loadS AT _ rfl w.heap.size rfl C HCs.out 152 R3.out (by rfl) ?_))
            go_ret
            exact ⟨by rw [HTT.out]; rfl, B5.out⟩
          · have hq2 : decide ((m.bytes.length : Int) > 4096) = false := decide_eq_false (by omega)
            rw [if_neg hq] at hT
            have HTT := hide hT
            clear hq hT hk hlt J NI NO
            generalize m.bytes.length = N at *
            go_wp2_with (first | (go_at_call 149; with_reducible refine HZ.out.mono ?_; rintro e W3 ⟨rfl, b3⟩; have B5 := hide (below_next B4.out b3); clear b3) | ((with_reducible refine at_list ?_); refine wpList_loadS AT _ rfl w.heap.size rfl C HCs.out 152 R3.out (by rfl) ?_))
            go_ret
            exact ⟨by rw [HTT.out]; rfl, B5.out⟩
end
end Go.Proofs.YtcoojkpimbddlaaGreatDoor
