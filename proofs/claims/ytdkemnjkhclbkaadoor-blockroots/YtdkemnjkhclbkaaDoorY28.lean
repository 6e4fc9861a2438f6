/- The document's Told: its contract. tx.ID and the document's ID: their contracts. -/
import Derived.Test.YtdkemnjkhclbkaaDoorY27
import Derived.Test.YtdkemnjkhclbkaaDoorY23
namespace Go.Proofs.YtdkemnjkhclbkaaDoor
open Go.RowKit
open Go.Deep
set_option linter.unusedVariables false
section
set_option maxRecDepth 10000
set_option maxHeartbeats 4000000
theorem rtold_any (m : Tm) (ai : Option Addr) (ci : Nat) (ao : Option Addr) (co : Nat) (w : World) (hl : LR w m ai ci ao co) (hf : m.fit) : Calls Tryd.prog 41 #[.agg (m.cells ai ci ao co)] w fun e w' => e = .returned (.int .i64 m.toldE) ∧ Below w.heap.size w w' := by
  have b1 := (Below.refl w.heap.size w).alloc (Nat.le_refl _) (.cells (m.cells ai ci ao co) 59)
  have r1 := heap_alloc_last w (.cells (m.cells ai ci ao co) 59)
  have c1 : (w.alloc (.cells (m.cells ai ci ao co) 59)).cell? ⟨w.heap.size, 1, none⟩ = some (.slice ai m.ins.length ci) := by rw [cell_of_row _ _ _ _ _ _ r1]; rfl
  have R1 := hide r1
  have HF := hide hf
  have HL := hide (hl.below b1)
  have B1 := hide b1
  clear hf hl b1 r1
  generalize hC : m.cells ai ci ao co = C at *
  go_enter Tryd.func41, Tryd.ntmps41
  go_upto_region 1 with ((with_reducible refine at_list ?_); refine wpList_boxA rfl _ rfl C rfl ?_)
  generalize w.alloc (.cells C 59) = W1 at *
  go_upto_region 2 with fail
  clear c1
  go_loopw [10] (fun i wr => ∃ k : Nat, k ≤ m.ins.length ∧ i = .int .i64 (k : Int) ∧ Hid ((m.ins.take k).any longI = false ∧ Below W1.heap.size W1 wr)) (fun i _ => (m.ins.length - intOf i).toNat)
  case atStart => exact ⟨0, Nat.zero_le _, rfl, by simp, Below.refl _ _⟩
  case round =>
    obtain ⟨k, hk, rfl, J⟩ := hrel
    by_cases hlt : k < m.ins.length
    · have h1 : (k : Int) < (m.ins.length : Int) := by omega
      have h2 : (0 : Int) ≤ (k : Int) := by omega
      have h5 := HF.out.i
      have e1 : IntKind.i64.wrap ((k : Int) + 1) = k + 1 := wrapI _ (by omega) (by omega)
      have KK := hide (And.intro (show k + 1 ≤ m.ins.length by omega) (show ((m.ins.length : Int) - ((k : Int) + 1)).toNat < ((m.ins.length : Int) - (k : Int)).toNat by omega))
      obtain ⟨ga, oa, rfl⟩ := HL.out.i.base (by omega)
      have RG : Hid (wr.rangeAt ga (oa + k * 35) m.ins[k].cells) := (HL.out.below J.out.2).i.range k hlt
      have AH := hide (any_here longI m.ins k hlt)
      have AT := hide (fun h => any_take longI m.ins k hlt J.out.1 h)
      have JB := hide J.out.2
      generalize m.ins[k] = x at *
      clear hk hlt h5 J
      go_upto_region 4 with ((with_reducible refine at_list ?_); first | refine wpLoadIr _ rfl ga (oa + k * 35) rfl x RG.out (by rfl) ?_ | refine wpList_allocA zAr' rfl rfl ?_ | refine wpList_store_newA zAr' rfl _ _ rfl _ rfl x.cells.toArray x.size x.all rfl rfl ?_)
      have c5 : (wr.alloc (.cells x.cells.toArray 66)).cell? ⟨wr.heap.size, 33, none⟩ = some (.string x.key) := by rw [cell_of_row _ _ _ _ _ _ (heap_alloc_last wr _)]; exact x.at33
      have J2 : Hid (Below W1.heap.size W1 (wr.alloc (.cells x.cells.toArray 66))) := JB.out.alloc JB.out.size _
      generalize wr.alloc (.cells x.cells.toArray 66) = wr2 at *
      clear JB RG
      by_cases hq : 520 < x.key.size
      · have hq2 : (x.key.size : Int) > 520 := by omega
        have AH2 := hide (AH.out (decide_eq_true hq))
        clear hq AH AT
        go_wp2
        go_ret
        exact ⟨by rw [Tm.toldE, if_pos AH2.out]; rfl, B1.out.trans (J2.out.mono B1.out.size)⟩
      · have hq2 : ¬ (x.key.size : Int) > 520 := by omega
        have AT2 := hide (AT.out (decide_eq_false hq))
        clear hq AH AT
        go_wp2
        exact ⟨⟨k + 1, KK.out.1, by go_num, AT2.out, J2.out⟩, by simpa [intOf] using KK.out.2⟩
    · have h1 : ¬ (k : Int) < (m.ins.length : Int) := by omega
      have NI := hide J.out.1
      rw [List.take_of_length_le (by omega)] at NI
      have L2 := hide ((HL.out.below J.out.2))
      have R2 := hide ((J.out.2.block _ (lt_heap R1.out)).trans R1.out)
      have c4 : wr.cell? ⟨w.heap.size, 2, none⟩ = some (.slice ao m.outs.length co) := by rw [cell_of_row _ _ _ _ _ _ R2.out, ← hC]; rfl
      have B3 := hide (B1.out.trans (J.out.2.mono B1.out.size))
      clear hk hlt J HL R1 B1
      go_upto_region 8 with fail
      clear c4 h1
      obtain ⟨W2, hW2⟩ : ∃ x, x = wr := ⟨_, rfl⟩
      subst hW2
      go_loopw [22] (fun i wr => ∃ k : Nat, k ≤ m.outs.length ∧ i = .int .i64 (k : Int) ∧ Hid ((m.outs.take k).any longO = false ∧ Below W2.heap.size W2 wr)) (fun i _ => (m.outs.length - intOf i).toNat)
      case atStart => exact ⟨0, Nat.zero_le _, rfl, by simp, Below.refl _ _⟩
      case round =>
        obtain ⟨k, hk, rfl, J⟩ := hrel
        by_cases hlt : k < m.outs.length
        · have h1 : (k : Int) < (m.outs.length : Int) := by omega
          have h2 : (0 : Int) ≤ (k : Int) := by omega
          have h5 := HF.out.o
          have e1 : IntKind.i64.wrap ((k : Int) + 1) = k + 1 := wrapI _ (by omega) (by omega)
          have KK := hide (And.intro (show k + 1 ≤ m.outs.length by omega) (show ((m.outs.length : Int) - ((k : Int) + 1)).toNat < ((m.outs.length : Int) - (k : Int)).toNat by omega))
          obtain ⟨ga, oa, rfl⟩ := L2.out.o.base (by omega)
          have RG : Hid (wr.rangeAt ga (oa + k * 2) m.outs[k].cells) := (L2.out.below J.out.2).o.range k hlt
          have AH := hide (any_here longO m.outs k hlt)
          have AT := hide (fun h => any_take longO m.outs k hlt J.out.1 h)
          have JB := hide J.out.2
          generalize m.outs[k] = x at *
          clear hk hlt h5 J
          go_upto_region 10 with ((with_reducible refine at_list ?_); first | refine wpLoadOr _ rfl ga (oa + k * 2) rfl x RG.out (by rfl) ?_ | refine wpList_allocA zOr' rfl rfl ?_ | refine wpList_store_newA zOr' rfl _ _ rfl _ rfl x.cells.toArray rfl x.all rfl rfl ?_)
          have c5 : (wr.alloc (.cells x.cells.toArray 69)).cell? ⟨wr.heap.size, 1, none⟩ = some (.string x.lock) := by rw [cell_of_row _ _ _ _ _ _ (heap_alloc_last wr _)]; rfl
          have J2 : Hid (Below W2.heap.size W2 (wr.alloc (.cells x.cells.toArray 69))) := JB.out.alloc JB.out.size _
          generalize wr.alloc (.cells x.cells.toArray 69) = wr2 at *
          clear JB RG
          by_cases hq : 520 < x.lock.size
          · have hq2 : (x.lock.size : Int) > 520 := by omega
            have AH2 := hide (AH.out (decide_eq_true hq))
            clear hq AH AT
            go_wp2
            go_ret
            exact ⟨by rw [Tm.toldE, if_neg (by rw [NI.out]; decide), if_pos AH2.out]; rfl, B3.out.trans (J2.out.mono B3.out.size)⟩
          · have hq2 : ¬ (x.lock.size : Int) > 520 := by omega
            have AT2 := hide (AT.out (decide_eq_false hq))
            clear hq AH AT
            go_wp2
            exact ⟨⟨k + 1, KK.out.1, by go_num, AT2.out, J2.out⟩, by simpa [intOf] using KK.out.2⟩
        · have h1 : ¬ (k : Int) < (m.outs.length : Int) := by omega
          have NO := hide J.out.1
          rw [List.take_of_length_le (by omega)] at NO
          have R3 := hide ((J.out.2.block _ (lt_heap R2.out)).trans R2.out)
          have B4 := hide (B3.out.trans (J.out.2.mono B3.out.size))
          have HZ : Hid (Calls Tryd.prog 43 #[.agg C] wr fun e w' => e = .returned (.string (txt m.bytes)) ∧ Below wr.heap.size wr w') := by
            show Calls _ _ _ _ _
            rw [← hC]
            exact tbytesR_any m ai ci ao co wr (L2.out.below J.out.2) HF.out (m.small HF.out NI.out NO.out)
          have HCs : Hid (C.size = 4) := by show _ = _; rw [← hC]; rfl
          have hT : m.toldE = if 4096 < m.bytes.length then 101 else 0 := by rw [Tm.toldE, if_neg (by rw [NI.out]; decide), if_neg (by rw [NO.out]; decide)]
          by_cases hq : 4096 < m.bytes.length
          · have hq2 : (m.bytes.length : Int) > 4096 := by omega
            rw [if_pos hq] at hT
            have HTT := hide hT
            clear hq hT hk hlt J NI NO
            have hz : (txt m.bytes).size = m.bytes.length := txt_sz _
            rw [← hz] at hq2
            clear hz
            generalize txt m.bytes = N at *
            go_wp2_with (first | (go_at_call 43; with_reducible refine HZ.out.mono ?_; rintro e W3 ⟨rfl, b3⟩; have B5 := hide (below_next B4.out b3); clear b3) | ((with_reducible refine at_list ?_); refine wpList_loadS ATr _ rfl w.heap.size rfl C HCs.out 59 R3.out (by rfl) ?_))
            go_ret
            exact ⟨by rw [HTT.out]; rfl, B5.out⟩
          · have hq2 : decide ((m.bytes.length : Int) > 4096) = false := decide_eq_false (by omega)
            rw [if_neg hq] at hT
            have HTT := hide hT
            clear hq hT hk hlt J NI NO
            have hz : (txt m.bytes).size = m.bytes.length := txt_sz _
            rw [← hz] at hq2
            clear hz
            generalize txt m.bytes = N at *
            go_wp2_with (first | (go_at_call 43; with_reducible refine HZ.out.mono ?_; rintro e W3 ⟨rfl, b3⟩; have B5 := hide (below_next B4.out b3); clear b3) | ((with_reducible refine at_list ?_); refine wpList_loadS ATr _ rfl w.heap.size rfl C HCs.out 59 R3.out (by rfl) ?_))
            go_ret
            exact ⟨by rw [HTT.out]; rfl, B5.out⟩
end
end Go.Proofs.YtdkemnjkhclbkaaDoor
namespace Go.Proofs.YtdkemnjkhclbkaaDoor
open Go.RowKit
open Go.Deep
set_option linter.unusedVariables false
/-- A transaction's id. -/
def Tm.idT (m : Tm) : List UInt8 := if m.toldE = 0 then dg2 (txt m.bytes) else zeros
theorem Tm.idT_len (m : Tm) : m.idT.length = 32 := by
  unfold Tm.idT
  split
  · exact dg2_len _
  · exact zeros_len
section
set_option maxRecDepth 10000
set_option maxHeartbeats 4000000
theorem id_any (m : Tm) (ai : Option Addr) (ci : Nat) (ao : Option Addr) (co : Nat) (w : World) (hK : Kg w) (hl : LT w m ai ci ao co) (hf : m.fit) : Calls Tryd.prog 20 #[.agg (m.cells ai ci ao co)] w fun e w' => e = .returned (.tuple #[.agg (hc m.idT), .int .i64 m.toldE]) ∧ Below w.heap.size w w' := by
  have b1 := (Below.refl w.heap.size w).alloc (Nat.le_refl _) (.cells (m.cells ai ci ao co) 47)
  have hsz : (w.alloc (.cells (m.cells ai ci ao co) 47)).heap.size = w.heap.size + 1 := by simp
  have b2 := b1.alloc (by rw [hsz]; omega) (.cells (hc zeros) 24)
  have e1 := heap_alloc_last w (.cells (m.cells ai ci ao co) 47)
  have r1 := (Below.heap_alloc _ (.cells (hc zeros) 24) _ (lt_heap e1)).trans e1
  have r2 := heap_alloc_last (w.alloc (.cells (m.cells ai ci ao co) 47)) (.cells (hc zeros) 24)
  rw [hsz] at r2
  have HL := hide (hl.below b2)
  have HF := hide hf
  have R1 := hide r1
  have R2 := hide r2
  have B2 := hide b2
  have CZ : Hid ((m.cells ai ci ao co).size = 4) := rfl
  have KS := hide (hK.next b2)
  clear b1 b2 e1 r1 r2 hl hf hK
  have HE : Hid (∀ W, LT W m ai ci ao co → Calls Tryd.prog 37 #[.agg (m.cells ai ci ao co)] W fun e w' => e = .returned (.tuple #[.string m.encT, .int .i64 m.toldE]) ∧ Below W.heap.size W w') := fun W l => encode_any m ai ci ao co W l HF.out
  generalize m.cells ai ci ao co = C at *
  by_cases h0 : m.toldE = 0
  · have hI : m.idT = dg2 (txt m.bytes) := by rw [Tm.idT, if_pos h0]
    have hE : m.encT = txt m.bytes := by rw [Tm.encT, if_pos h0]
    have hB := (m.told0 h0).2.2
    rw [hI, h0]
    rw [hE, h0] at HE
    have HT : Hid (∀ W, Kg W → Calls Tryd.prog 38 #[.string (txt m.bytes)] W fun e w' => e = .returned (.agg (hc (dg2 (txt m.bytes)))) ∧ Below W.heap.size W w') := fun W g => twice_any (txt m.bytes) (by rw [txt_sz]; omega) W g
    have h1 : Hid ((hc (dg2 (txt m.bytes))).size = 32) := by show _ = _; rw [hc_size, dg2_len]
    have h2 := hide (hc_one (dg2 (txt m.bytes)))
    clear hI hE hB h0 HF
    generalize hc (dg2 (txt m.bytes)) = D at *
    generalize txt m.bytes = T at *
    go_enter Tryd.func20, Tryd.ntmps20
    go_upto_region 1 with ((with_reducible refine at_list ?_); first | refine wpList_boxA rfl _ rfl C rfl ?_ | refine wpList_allocA A25 rfl rfl ?_)
    try rw [hsz]
    clear hsz
    generalize (w.alloc (.cells C 47)).alloc (.cells (hc zeros) 24) = W0 at *
    go_wp2_with (first | (go_at_call 37; refine (HE.out _ HL.out).mono ?_; rintro r W1 ⟨rfl, b1⟩; have D1 := hide b1; clear b1) | (go_at_call 38; refine (HT.out _ (KS.out.next D1.out)).mono ?_; rintro r W2 ⟨rfl, b1⟩; have D2 := hide (below_next D1.out b1); clear b1; have R4 := hide ((D2.out.block _ (lt_heap R2.out)).trans R2.out)) | ((with_reducible refine at_list ?_); first | refine wpList_loadS AT _ rfl w.heap.size rfl C CZ.out 47 R1.out (by rfl) ?_ | refine wpList_storeA A25 rfl _ _ rfl (w.heap.size + 1) D h1.out h2.out rfl rfl (hc zeros) (by rw [hc_size, zeros_len]) 24 R4.out ?_))
    exact bodyPost_ret (v := .tuple #[.agg D, .int .i64 0]) (resA2K A25 Tryd.results20 _ _ (w.heap.size + 1) 24 _ h1.out rfl (setRow_heap _ _ _ _ _ _ R4.out) _ rfl) rfl ⟨rfl, below_setRow (below_next B2.out D2.out) (by omega) _⟩
  · have hI : m.idT = zeros := by rw [Tm.idT, if_neg h0]
    have hE : m.encT = ⟨#[]⟩ := by rw [Tm.encT, if_neg h0]
    rw [hI]
    rw [hE] at HE
    clear hI hE HF
    generalize m.toldE = E at *
    go_enter Tryd.func20, Tryd.ntmps20
    go_upto_region 1 with ((with_reducible refine at_list ?_); first | refine wpList_boxA rfl _ rfl C rfl ?_ | refine wpList_allocA A25 rfl rfl ?_)
    try rw [hsz]
    clear hsz
    generalize (w.alloc (.cells C 47)).alloc (.cells (hc zeros) 24) = W0 at *
    go_wp2_with (first | (go_at_call 37; refine (HE.out _ HL.out).mono ?_; rintro r W1 ⟨rfl, b1⟩; have D1 := hide b1; clear b1; have R4 := hide ((D1.out.block _ (lt_heap R2.out)).trans R2.out)) | ((with_reducible refine at_list ?_); first | refine wpList_loadS AT _ rfl w.heap.size rfl C CZ.out 47 R1.out (by rfl) ?_ | refine wpList_buildA A25 rfl rfl ?_ | refine wpList_storeA A25 rfl _ _ rfl (w.heap.size + 1) (hc zeros) (by rw [hc_size, zeros_len]) (hc_one _) rfl rfl (hc zeros) (by rw [hc_size, zeros_len]) 24 R4.out ?_))
    exact bodyPost_ret (v := .tuple #[.agg (hc zeros), .int .i64 E]) (resA2K A25 Tryd.results20 _ _ (w.heap.size + 1) 24 _ (by rw [hc_size, zeros_len]) rfl (setRow_heap _ _ _ _ _ _ R4.out) _ rfl) rfl ⟨rfl, below_setRow (below_next B2.out D1.out) (by omega) _⟩
theorem rid_any (m : Tm) (ai : Option Addr) (ci : Nat) (ao : Option Addr) (co : Nat) (w : World) (hl : LR w m ai ci ao co) (hf : m.fit) : Calls Tryd.prog 23 #[.agg (m.cells ai ci ao co)] w fun e w' => e = .returned (.tuple #[.agg (hc m.idT), .bool (decide (m.toldE = 0))]) ∧ Below w.heap.size w w' := by
  have b1 := (Below.refl w.heap.size w).alloc (Nat.le_refl _) (.cells (m.cells ai ci ao co) 59)
  have hsz : (w.alloc (.cells (m.cells ai ci ao co) 59)).heap.size = w.heap.size + 1 := by simp
  have b2 := b1.alloc (by rw [hsz]; omega) (.cells (hc zeros) 23)
  have e1 := heap_alloc_last w (.cells (m.cells ai ci ao co) 59)
  have r1 := (Below.heap_alloc _ (.cells (hc zeros) 23) _ (lt_heap e1)).trans e1
  have r2 := heap_alloc_last (w.alloc (.cells (m.cells ai ci ao co) 59)) (.cells (hc zeros) 23)
  rw [hsz] at r2
  have HL := hide (hl.below b2)
  have HF := hide hf
  have R1 := hide r1
  have R2 := hide r2
  have B2 := hide b2
  have CZ : Hid ((m.cells ai ci ao co).size = 4) := rfl
  clear b1 b2 e1 r1 r2 hl hf
  have HE : Hid (∀ W, LR W m ai ci ao co → Calls Tryd.prog 41 #[.agg (m.cells ai ci ao co)] W fun e w' => e = .returned (.int .i64 m.toldE) ∧ Below W.heap.size W w') := fun W l => rtold_any m ai ci ao co W l HF.out
  have HY : Hid (∀ W, LR W m ai ci ao co → m.bytes.length ≤ 9223372036854775807 → Calls Tryd.prog 43 #[.agg (m.cells ai ci ao co)] W fun e w' => e = .returned (.string (txt m.bytes)) ∧ Below W.heap.size W w') := fun W l h => tbytesR_any m ai ci ao co W l HF.out h
  generalize m.cells ai ci ao co = C at *
  by_cases h0 : m.toldE = 0
  · have hI : m.idT = dg2 (txt m.bytes) := by rw [Tm.idT, if_pos h0]
    have hB := (m.told0 h0).2.2
    rw [hI, h0]
    rw [h0] at HE
    have HT : Hid (∀ W, Calls Tryd.prog 42 #[.string (txt m.bytes)] W fun e w' => e = .returned (.agg (hc (dg2 (txt m.bytes)))) ∧ Below W.heap.size W w') := fun W => rtwice_any (txt m.bytes) (by rw [txt_sz]; omega) W
    have h1 : Hid ((hc (dg2 (txt m.bytes))).size = 32) := by show _ = _; rw [hc_size, dg2_len]
    have h2 := hide (hc_one (dg2 (txt m.bytes)))
    have HZ := hide (fun W l => HY.out W l (by omega))
    clear hI hB h0 HF HY
    generalize hc (dg2 (txt m.bytes)) = D at *
    generalize txt m.bytes = T at *
    go_enter Tryd.func23, Tryd.ntmps23
    go_upto_region 1 with ((with_reducible refine at_list ?_); first | refine wpList_boxA rfl _ rfl C rfl ?_ | refine wpList_allocA A24 rfl rfl ?_)
    try rw [hsz]
    clear hsz
    generalize (w.alloc (.cells C 59)).alloc (.cells (hc zeros) 23) = W0 at *
    go_wp2_with (first | (go_at_call 41; refine (HE.out _ HL.out).mono ?_; rintro r W1 ⟨rfl, b1⟩; have D1 := hide b1; clear b1; have R3 := hide ((D1.out.block _ (lt_heap R1.out)).trans R1.out)) | (go_at_call 43; refine (HZ.out _ (HL.out.below D1.out)).mono ?_; rintro r W2 ⟨rfl, b1⟩; have D2 := hide (below_next D1.out b1); clear b1) | (go_at_call 42; refine (HT.out _).mono ?_; rintro r W3 ⟨rfl, b1⟩; have D3 := hide (below_next D2.out b1); clear b1; have R4 := hide ((D3.out.block _ (lt_heap R2.out)).trans R2.out)) | ((with_reducible refine at_list ?_); first | refine wpList_loadS ATr _ rfl w.heap.size rfl C CZ.out 59 R1.out (by rfl) ?_ | refine wpList_loadS ATr _ rfl w.heap.size rfl C CZ.out 59 R3.out (by rfl) ?_ | refine wpList_storeA A24 rfl _ _ rfl (w.heap.size + 1) D h1.out h2.out rfl rfl (hc zeros) (by rw [hc_size, zeros_len]) 23 R4.out ?_))
    exact bodyPost_ret (v := .tuple #[.agg D, .bool true]) (resA2K A24 Tryd.results23 _ _ (w.heap.size + 1) 23 _ h1.out rfl (setRow_heap _ _ _ _ _ _ R4.out) _ rfl) rfl ⟨rfl, below_setRow (below_next B2.out D3.out) (by omega) _⟩
  · have hI : m.idT = zeros := by rw [Tm.idT, if_neg h0]
    rw [hI, decide_eq_false h0]
    clear hI HF HY
    generalize m.toldE = E at *
    go_enter Tryd.func23, Tryd.ntmps23
    go_upto_region 1 with ((with_reducible refine at_list ?_); first | refine wpList_boxA rfl _ rfl C rfl ?_ | refine wpList_allocA A24 rfl rfl ?_)
    try rw [hsz]
    clear hsz
    generalize (w.alloc (.cells C 59)).alloc (.cells (hc zeros) 23) = W0 at *
    go_wp2_with (first | (go_at_call 41; refine (HE.out _ HL.out).mono ?_; rintro r W1 ⟨rfl, b1⟩; have D1 := hide b1; clear b1; have R4 := hide ((D1.out.block _ (lt_heap R2.out)).trans R2.out)) | ((with_reducible refine at_list ?_); first | refine wpList_loadS ATr _ rfl w.heap.size rfl C CZ.out 59 R1.out (by rfl) ?_ | refine wpList_buildA A24 rfl rfl ?_ | refine wpList_storeA A24 rfl _ _ rfl (w.heap.size + 1) (hc zeros) (by rw [hc_size, zeros_len]) (hc_one _) rfl rfl (hc zeros) (by rw [hc_size, zeros_len]) 23 R4.out ?_))
    exact bodyPost_ret (v := .tuple #[.agg (hc zeros), .bool false]) (resA2K A24 Tryd.results23 _ _ (w.heap.size + 1) 23 _ (by rw [hc_size, zeros_len]) rfl (setRow_heap _ _ _ _ _ _ R4.out) _ rfl) rfl ⟨rfl, below_setRow (below_next B2.out D1.out) (by omega) _⟩
end
end Go.Proofs.YtdkemnjkhclbkaaDoor
