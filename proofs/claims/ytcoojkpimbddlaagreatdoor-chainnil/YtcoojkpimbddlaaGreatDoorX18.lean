/- tx.Encode: its contract. -/
import Derived.Test.YtcoojkpimbddlaaGreatDoorX17
namespace Go.Proofs.YtcoojkpimbddlaaGreatDoor
open Go.RowKit
open Go.Deep
set_option linter.unusedVariables false
def Tm.encT (m : Tm) : ByteArray := if m.toldE = 0 then txt m.bytes else ⟨#[]⟩
theorem Tm.told0 (m : Tm) (h : m.toldE = 0) : m.ins.any longI = false ∧ m.outs.any longO = false ∧ m.bytes.length ≤ 4096 := by
  unfold Tm.toldE at h
  cases h1 : m.ins.any longI
  · cases h2 : m.outs.any longO
    · rw [h1, h2] at h
      refine ⟨rfl, rfl, ?_⟩
      by_cases h3 : 4096 < m.bytes.length
      · rw [if_neg (by decide), if_neg (by decide), if_pos h3] at h
        omega
      · omega
    · rw [h1, h2] at h
      simp at h
  · rw [h1] at h
    simp at h
def Tm.pre (m : Tm) (k : Nat) : List UInt8 := lowL m.ver.toNat 4 ++ countL m.ins.length ++ insL (m.ins.take k)
def Tm.mid (m : Tm) (k : Nat) : List UInt8 := lowL m.ver.toNat 4 ++ countL m.ins.length ++ insL m.ins ++ countL m.outs.length ++ outsL (m.outs.take k)
theorem Tm.pre_le (m : Tm) (k : Nat) : (m.pre k).length ≤ m.bytes.length := by
  have := insL_le m.ins k
  simp only [Tm.pre, Tm.bytes, List.length_append]
  omega
theorem Tm.mid_le (m : Tm) (k : Nat) : (m.mid k).length ≤ m.bytes.length := by
  have := outsL_le m.outs k
  simp only [Tm.mid, Tm.bytes, List.length_append]
  omega
theorem Tm.pre_next (m : Tm) (k : Nat) (h : k < m.ins.length) : m.pre k ++ m.ins[k].hash ++ lowL m.ins[k].idx.toNat 4 ++ countL m.ins[k].key.size ++ m.ins[k].key.data.toList ++ lowL m.ins[k].seq.toNat 4 = m.pre (k + 1) := by
  simp only [Tm.pre, insL_take _ _ h, Ti.bytes, txtL, List.append_assoc]
theorem Tm.mid_next (m : Tm) (k : Nat) (h : k < m.outs.length) : m.mid k ++ lowL m.outs[k].val.toNat 8 ++ countL m.outs[k].lock.size ++ m.outs[k].lock.data.toList = m.mid (k + 1) := by
  simp only [Tm.mid, outsL_take _ _ h, Tu.bytes, txtL, List.append_assoc]
theorem Tm.pre_end (m : Tm) (k : Nat) (h : m.ins.length ≤ k) : m.pre k ++ countL m.outs.length = m.mid 0 := by
  simp only [Tm.pre, Tm.mid, List.take_of_length_le h, List.take_zero]
  simp [outsL]
theorem Tm.mid_end (m : Tm) (k : Nat) (h : m.outs.length ≤ k) : m.mid k ++ lowL m.time.toNat 4 = m.bytes := by
  simp only [Tm.mid, Tm.bytes, List.take_of_length_le h, List.append_assoc]
section
set_option maxRecDepth 10000
set_option maxHeartbeats 4000000
theorem encode_any (m : Tm) (ai : Option Addr) (ci : Nat) (ao : Option Addr) (co : Nat) (w : World) (hl : LT w m ai ci ao co) (hf : m.fit) : Calls Tryz.prog 155 #[.agg (m.cells ai ci ao co)] w fun e w' => e = .returned (.tuple #[.string m.encT, .int .i64 m.toldE]) ∧ Below w.heap.size w w' := by
  have b1 := (Below.refl w.heap.size w).alloc (Nat.le_refl _) (.cells (m.cells ai ci ao co) 152)
  have r1 := heap_alloc_last w (.cells (m.cells ai ci ao co) 152)
  have R1 := hide r1
  have HF := hide hf
  have HL := hide (hl.below b1)
  have B1 := hide b1
  have HT := hide (told_any m ai ci ao co _ (hl.below b1) hf)
  have HCs : Hid ((m.cells ai ci ao co).size = 4) := rfl
  clear hf hl b1 r1
  generalize hC : m.cells ai ci ao co = C at *
  generalize hT : m.toldE = te at *
  have TE : Hid (m.toldE = te) := hT
  clear hT
  go_enter Tryz.func155, Tryz.ntmps155
  go_upto_region 1 with ((with_reducible refine at_list ?_); refine wpList_boxA rfl _ rfl C rfl ?_)
  generalize w.alloc (.cells C 152) = W0 at *
  go_upto_region 2 with (first | (go_at_call 210; with_reducible refine HT.out.mono ?_; rintro e W1 ⟨rfl, b2⟩; have B2 := hide b2; clear b2) | ((with_reducible refine at_list ?_); refine wpList_loadS AT _ rfl w.heap.size rfl C HCs.out 152 R1.out (by rfl) ?_))
  clear HT
  have R2 := hide ((B2.out.block _ (lt_heap R1.out)).trans R1.out)
  have L2 := hide (HL.out.below B2.out)
  have B3 := hide (B1.out.trans (B2.out.mono B1.out.size))
  clear R1 HL B1 B2
  by_cases h0 : te = 0
  · have ET : Hid (m.encT = txt m.bytes) := by
      show _ = _
      rw [Tm.encT, if_pos (TE.out.trans h0)]
    have ZZ := hide (m.told0 (TE.out.trans h0))
    subst h0
    go_upto_region 4 with fail
    go_upto_region 5 with (go_at_call 140; refine (newWriter_any _).mono ?_; rintro e W2 ⟨rfl, rfl⟩)
    have J0 := hide (Wb.new W1)
    generalize W1.alloc (.cells #[.slice none 0 0] 323) = W2 at *
    generalize hb : W1.heap.size = b at *
    have CC : Hid (∀ W l, Wb W1 W b l → W.heap[w.heap.size]? = some (.cells C 152 (0, 0))) := fun W l j => (j.bel.block _ (lt_heap R2.out)).trans R2.out
    have LL : Hid (∀ W l, Wb W1 W b l → LT W m ai ci ao co) := fun W l j => L2.out.below j.bel
    have c0 : W2.cell? ⟨w.heap.size, 0, none⟩ = some (.int .u32 (m.ver.toNat : Int)) := by rw [cell_of_row _ _ _ _ _ _ (CC.out _ _ J0.out), ← hC]; rfl
    have HU : Hid (∀ n : Nat, n < 4294967296 → ∀ l W, Wb W1 W b l → l.length ≤ 35184372088832 → Calls Tryz.prog 141 #[pb b, .int .u32 (n : Int)] W fun e w' => e = .returned (.tuple #[]) ∧ Wb W1 w' b (l ++ lowL n 4) ∧ Wfr W w' (pb b)) := fun n hn l W j hl => (wU32 (pb b) l n hn W hl j.st).mono fun e w' ⟨h1, h2, h3⟩ => ⟨h1, j.step h2 h3, h3⟩
    have HQ : Hid (∀ n : Nat, U64 n → ∀ l W, Wb W1 W b l → l.length ≤ 35184372088832 → Calls Tryz.prog 218 #[pb b, .int .u64 (n : Int)] W fun e w' => e = .returned (.tuple #[]) ∧ Wb W1 w' b (l ++ lowL n 8) ∧ Wfr W w' (pb b)) := fun n hn l W j hl => (wU64 (pb b) l n hn W hl j.st).mono fun e w' ⟨h1, h2, h3⟩ => ⟨h1, j.step h2 h3, h3⟩
    have HK : Hid (∀ n : Nat, U64 n → ∀ l W, Wb W1 W b l → l.length ≤ 35184372088832 → Calls Tryz.prog 161 #[pb b, .int .u64 (n : Int)] W fun e w' => e = .returned (.tuple #[]) ∧ Wb W1 w' b (l ++ countL n) ∧ Wfr W w' (pb b)) := fun n hn l W j hl => (wCount (pb b) l n hn W hl j.st).mono fun e w' ⟨h1, h2, h3⟩ => ⟨h1, j.step h2 h3, h3⟩
    have HS : Hid (∀ s : ByteArray, s.size ≤ 520 → ∀ l W, Wb W1 W b l → l.length ≤ 35184372088832 → Calls Tryz.prog 217 #[pb b, .string s] W fun e w' => e = .returned (.tuple #[]) ∧ Wb W1 w' b (l ++ countL s.size ++ s.data.toList) ∧ Wfr W w' (pb b)) := fun s hs l W j hl => (wString (pb b) l s (by omega) (.inr (by omega)) W hl j.st).mono fun e w' ⟨h1, h2, h3⟩ => ⟨h1, j.step h2 h3, h3⟩
    have HH : Hid (∀ h : List UInt8, h.length = 32 → ∀ l W, Wb W1 W b l → l.length ≤ 35184372088832 → Calls Tryz.prog 159 #[pb b, .agg (hc h)] W fun e w' => e = .returned (.tuple #[]) ∧ Wb W1 w' b (l ++ h) ∧ Wfr W w' (pb b)) := fun h hh l W j hl => (wHash (pb b) l h hh W hl j.st).mono fun e w' ⟨h1, h2, h3⟩ => ⟨h1, j.step h2 h3, h3⟩
    have HW : Hid (∀ l W, Wb W1 W b l → Calls Tryz.prog 143 #[pb b] W fun e w' => e = .returned (.string (txt l)) ∧ w' = W) := fun l W j => wText b l W j.st
    clear L2 R2
    have eU : IntKind.u64.wrap (m.ins.length : Int) = (m.ins.length : Int) := wrapu _ (by omega) (by have := HF.out.i; omega)
    have U1 : Hid (U64 m.ins.length ∧ U64 m.outs.length) := ⟨by have := HF.out.i; unfold U64; omega, by have := HF.out.o; unfold U64; omega⟩
    have P0 := hide (m.pre_le 0)
    go_upto_region 6 with (go_at_call 141; refine (HU.out m.ver.toNat m.ver.toNat_lt [] _ J0.out (by simp)).mono ?_; rintro e W3 ⟨rfl, j1, f1⟩; have J1 := hide j1; clear j1 f1)
    rw [List.nil_append] at J1
    have c1 : W3.cell? ⟨w.heap.size, 1, none⟩ = some (.slice ai m.ins.length ci) := by rw [cell_of_row _ _ _ _ _ _ (CC.out _ _ J1.out), ← hC]; rfl
    clear c0 J0
    go_upto_region 7 with (go_at_call 161; refine (HK.out m.ins.length U1.out.1 _ _ J1.out (by rw [lowL_len]; omega)).mono ?_; rintro e W4 ⟨rfl, j1, f1⟩; have J2 := hide j1; clear j1 f1)
    have J3 : Hid (Wb W1 W4 b (m.pre 0)) := by
      have := J2.out
      show Wb W1 W4 b (m.pre 0)
      simpa [Tm.pre, insL] using this
    have c2 : W4.cell? ⟨w.heap.size, 1, none⟩ = some (.slice ai m.ins.length ci) := by rw [cell_of_row _ _ _ _ _ _ (CC.out _ _ J3.out), ← hC]; rfl
    clear c1 J1 J2 eU
    go_upto_region 8 with fail
    clear c2
    go_loopw [29] (fun i wr => ∃ k : Nat, k ≤ m.ins.length ∧ i = .int .i64 (k : Int) ∧ Hid (Wb W1 wr b (m.pre k))) (fun i _ => (m.ins.length - intOf i).toNat)
    case atStart => exact ⟨0, Nat.zero_le _, rfl, J3.out⟩
    case round =>
      obtain ⟨k, hk, rfl, J⟩ := hrel
      by_cases hlt : k < m.ins.length
      · have h1 : (k : Int) < (m.ins.length : Int) := by omega
        have h2 : (0 : Int) ≤ (k : Int) := by omega
        have h5 := HF.out.i
        have e1 : IntKind.i64.wrap ((k : Int) + 1) = k + 1 := wrapI _ (by omega) (by omega)
        have KK := hide (And.intro (show k + 1 ≤ m.ins.length by omega) (show ((m.ins.length : Int) - ((k : Int) + 1)).toNat < ((m.ins.length : Int) - (k : Int)).toNat by omega))
        obtain ⟨ga, oa, rfl⟩ := (LL.out _ _ J.out).i.base (by omega)
        have RG : Hid (wr.rangeAt ga (oa + k * 35) m.ins[k].cells) := (LL.out _ _ J.out).i.range k hlt
        have hkey : m.ins[k].key.size ≤ 520 := by
          have := ZZ.out.1
          rw [List.any_eq_false] at this
          have := this _ (List.getElem_mem hlt)
          simp only [longI, decide_eq_true_eq] at this
          omega
        have NX := hide (m.pre_next k hlt)
        have PL := hide (Nat.le_trans (m.pre_le k) ZZ.out.2.2)
        have PN := hide (Nat.le_trans (m.pre_le (k + 1)) ZZ.out.2.2)
        have HY := hide hkey
        generalize m.ins[k] = x at *
        clear hk hlt h5 hkey J3
        have bA : Below wr.heap.size wr (wr.alloc (.cells x.cells.toArray 162)) := (Below.refl _ _).alloc (Nat.le_refl _) _
        have rA := heap_alloc_last wr (.cells x.cells.toArray 162)
        have KP : Hid (∀ W l, Wx W1 (wr.alloc (.cells x.cells.toArray 162)) W b l → W.heap[wr.heap.size]? = some (.cells x.cells.toArray 162 (0, 0))) := fun W l j => (j.kept J.out bA (Nat.le_refl _) (by simp)).trans rA
        have X0 := hide (Wx.start (J.out.next bA))
        clear bA rA
        go_upto_region 10 with ((with_reducible refine at_list ?_); first | refine wpLoadI _ rfl ga (oa + k * 35) rfl x RG.out (by rfl) ?_ | refine wpList_allocA AI rfl rfl ?_ | refine wpList_store_newA AI rfl _ _ rfl _ rfl x.cells.toArray x.size x.all rfl rfl ?_)
        generalize wr.alloc (.cells x.cells.toArray 162) = A at *
        generalize hg : wr.heap.size = g at *
        have RH := hide (x.hashAt (KP.out _ _ X0.out))
        go_upto_region 11 with (first | (go_at_call 159; refine (HH.out x.hash x.hh _ _ X0.out.wb (by have := PL.out; omega)).mono ?_; rintro e W5 ⟨rfl, j1, f1⟩; have X1 := hide (X0.out.step j1 f1); clear j1 f1) | ((with_reducible refine at_list ?_); refine wpLoadHash _ rfl g 0 rfl x.hash x.hh RH.out (by rfl) ?_))
        clear RH X0 RG
        have c3 : W5.cell? ⟨g, 32, none⟩ = some (.int .u32 (x.idx.toNat : Int)) := by rw [cell_of_row _ _ _ _ _ _ (KP.out _ _ X1.out)]; exact x.at32
        go_upto_region 12 with (go_at_call 141; refine (HU.out x.idx.toNat x.idx.toNat_lt _ _ X1.out.wb (by have := PL.out; have := x.hh; rw [List.length_append]; omega)).mono ?_; rintro e W6 ⟨rfl, j1, f1⟩; have X2 := hide (X1.out.step j1 f1); clear j1 f1)
        clear c3 X1
        have c4 : W6.cell? ⟨g, 33, none⟩ = some (.string x.key) := by rw [cell_of_row _ _ _ _ _ _ (KP.out _ _ X2.out)]; exact x.at33
        go_upto_region 13 with (go_at_call 217; refine (HS.out x.key HY.out _ _ X2.out.wb (by have := PL.out; have := x.hh; rw [List.length_append, List.length_append, lowL_len]; omega)).mono ?_; rintro e W7 ⟨rfl, j1, f1⟩; have X3 := hide (X2.out.step j1 f1); clear j1 f1)
        clear c4 X2
        have c5 : W7.cell? ⟨g, 34, none⟩ = some (.int .u32 (x.seq.toNat : Int)) := by rw [cell_of_row _ _ _ _ _ _ (KP.out _ _ X3.out)]; exact x.at34
        have PM : Hid ((m.pre k ++ x.hash ++ lowL x.idx.toNat 4 ++ countL x.key.size ++ x.key.data.toList).length ≤ 35184372088832) := by
          have h1 := PN.out
          rw [← NX.out, List.length_append] at h1
          show _ ≤ _
          omega
        go_wp2_with (go_at_call 141; refine (HU.out x.seq.toNat x.seq.toNat_lt _ _ X3.out.wb PM.out).mono ?_; rintro e W8 ⟨rfl, j1, f1⟩; have X4 := hide j1; clear j1 f1)
        rw [NX.out] at X4
        exact ⟨⟨k + 1, KK.out.1, by go_num, X4.out⟩, by simpa [intOf] using KK.out.2⟩
      · have h1 : ¬ (k : Int) < (m.ins.length : Int) := by omega
        have NE := hide (m.pre_end k (by omega))
        have c4 : wr.cell? ⟨w.heap.size, 2, none⟩ = some (.slice ao m.outs.length co) := by rw [cell_of_row _ _ _ _ _ _ (CC.out _ _ J.out), ← hC]; rfl
        have eU : IntKind.u64.wrap (m.outs.length : Int) = (m.outs.length : Int) := wrapu _ (by omega) (by have := HF.out.o; omega)
        have PL := hide (Nat.le_trans (m.pre_le k) ZZ.out.2.2)
        clear hk hlt J3
        go_upto_region 16 with (go_at_call 161; refine (HK.out m.outs.length U1.out.2 _ _ J.out (by have := PL.out; omega)).mono ?_; rintro e W5 ⟨rfl, j1, f1⟩; have X1 := hide j1; clear j1 f1)
        rw [NE.out] at X1
        have c5 : W5.cell? ⟨w.heap.size, 2, none⟩ = some (.slice ao m.outs.length co) := by rw [cell_of_row _ _ _ _ _ _ (CC.out _ _ X1.out), ← hC]; rfl
        clear c4 eU J
        go_upto_region 17 with fail
        clear c5
        go_loopw [61] (fun i wr => ∃ k : Nat, k ≤ m.outs.length ∧ i = .int .i64 (k : Int) ∧ Hid (Wb W1 wr b (m.mid k))) (fun i _ => (m.outs.length - intOf i).toNat)
        case atStart => exact ⟨0, Nat.zero_le _, rfl, X1.out⟩
        case round =>
          obtain ⟨k, hk, rfl, J⟩ := hrel
          by_cases hlt : k < m.outs.length
          · have h1 : (k : Int) < (m.outs.length : Int) := by omega
            have h2 : (0 : Int) ≤ (k : Int) := by omega
            have h5 := HF.out.o
            have e1 : IntKind.i64.wrap ((k : Int) + 1) = k + 1 := wrapI _ (by omega) (by omega)
            have KK := hide (And.intro (show k + 1 ≤ m.outs.length by omega) (show ((m.outs.length : Int) - ((k : Int) + 1)).toNat < ((m.outs.length : Int) - (k : Int)).toNat by omega))
            obtain ⟨ga, oa, rfl⟩ := (LL.out _ _ J.out).o.base (by omega)
            have RG : Hid (wr.rangeAt ga (oa + k * 2) m.outs[k].cells) := (LL.out _ _ J.out).o.range k hlt
            have hkey : m.outs[k].lock.size ≤ 520 := by
              have := ZZ.out.2.1
              rw [List.any_eq_false] at this
              have := this _ (List.getElem_mem hlt)
              simp only [longO, decide_eq_true_eq] at this
              omega
            have NX := hide (m.mid_next k hlt)
            have PL := hide (Nat.le_trans (m.mid_le k) ZZ.out.2.2)
            have HY := hide hkey
            generalize m.outs[k] = x at *
            clear hk hlt h5 hkey X1
            have bA : Below wr.heap.size wr (wr.alloc (.cells x.cells.toArray 156)) := (Below.refl _ _).alloc (Nat.le_refl _) _
            have rA := heap_alloc_last wr (.cells x.cells.toArray 156)
            have KP : Hid (∀ W l, Wx W1 (wr.alloc (.cells x.cells.toArray 156)) W b l → W.heap[wr.heap.size]? = some (.cells x.cells.toArray 156 (0, 0))) := fun W l j => (j.kept J.out bA (Nat.le_refl _) (by simp)).trans rA
            have X0 := hide (Wx.start (J.out.next bA))
            clear bA rA
            go_upto_region 19 with ((with_reducible refine at_list ?_); first | refine wpLoadO _ rfl ga (oa + k * 2) rfl x RG.out (by rfl) ?_ | refine wpList_allocA AO rfl rfl ?_ | refine wpList_store_newA AO rfl _ _ rfl _ rfl x.cells.toArray rfl x.all rfl rfl ?_)
            generalize wr.alloc (.cells x.cells.toArray 156) = A at *
            generalize hg : wr.heap.size = g at *
            have c3 : A.cell? ⟨g, 0, none⟩ = some (.int .u64 (x.val.toNat : Int)) := by rw [cell_of_row _ _ _ _ _ _ (KP.out _ _ X0.out)]; rfl
            go_upto_region 20 with (go_at_call 218; refine (HQ.out x.val.toNat x.val.toNat_lt _ _ X0.out.wb (by have := PL.out; omega)).mono ?_; rintro e W6 ⟨rfl, j1, f1⟩; have X2 := hide (X0.out.step j1 f1); clear j1 f1)
            clear c3 X0
            have c4 : W6.cell? ⟨g, 1, none⟩ = some (.string x.lock) := by rw [cell_of_row _ _ _ _ _ _ (KP.out _ _ X2.out)]; rfl
            go_wp2_with (go_at_call 217; refine (HS.out x.lock HY.out _ _ X2.out.wb (by have := PL.out; rw [List.length_append, lowL_len]; omega)).mono ?_; rintro e W8 ⟨rfl, j1, f1⟩; have X4 := hide j1; clear j1 f1)
            rw [NX.out] at X4
            exact ⟨⟨k + 1, KK.out.1, by go_num, X4.out⟩, by simpa [intOf] using KK.out.2⟩
          · have h1 : ¬ (k : Int) < (m.outs.length : Int) := by omega
            have NE2 := hide (m.mid_end k (by omega))
            have c4 : wr.cell? ⟨w.heap.size, 3, none⟩ = some (.int .u32 (m.time.toNat : Int)) := by rw [cell_of_row _ _ _ _ _ _ (CC.out _ _ J.out), ← hC]; rfl
            have PL := hide (Nat.le_trans (m.mid_le k) ZZ.out.2.2)
            clear hk hlt X1
            go_wp2_with (first | (go_at_call 141; refine (HU.out m.time.toNat m.time.toNat_lt _ _ J.out (by have := PL.out; omega)).mono ?_; rintro e W8 ⟨rfl, j1, f1⟩; have X4 := hide j1; clear j1 f1) | (go_at_call 143; refine (HW.out _ _ X4.out).mono ?_; rintro e W9 ⟨rfl, rfl⟩; rw [NE2.out]))
            go_ret2
            exact ⟨by rw [ET.out]; rfl, B3.out.trans (X4.out.bel.mono B3.out.size)⟩
  · have h1 : (te != 0) = true := by simp [h0]
    have ET : Hid (m.encT = ⟨#[]⟩) := by
      show _ = _
      rw [Tm.encT, if_neg (by rw [TE.out]; exact h0)]
    go_wp2
    go_ret2
    exact ⟨by rw [ET.out]; rfl, B3.out⟩
end
end Go.Proofs.YtcoojkpimbddlaaGreatDoor
