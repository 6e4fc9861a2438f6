/- The document's Told: its contract. tx.ID and the document's ID: their contracts. Lists of ids in memory: read, made, appended to. -/
import Derived.Test.YtofddbjnncgmlabGreatDoorX22
import Derived.Test.YtofddbjnncgmlabGreatDoorX19
import Derived.Test.YtofddbjnncgmlabGreatDoorX06
namespace Go.Proofs.YtofddbjnncgmlabGreatDoor
open Go.RowKit
open Go.Deep
set_option linter.unusedVariables false
section
set_option maxRecDepth 10000
set_option maxHeartbeats 4000000
theorem rtold_any (m : Tm) (ai : Option Addr) (ci : Nat) (ao : Option Addr) (co : Nat) (w : World) (hl : LR w m ai ci ao co) (hf : m.fit) : Calls Tryz.prog 30 #[.agg (m.cells ai ci ao co)] w fun e w' => e = .returned (.int .i64 m.toldE) ∧ Below w.heap.size w w' := by
  have b1 := (Below.refl w.heap.size w).alloc (Nat.le_refl _) (.cells (m.cells ai ci ao co) 43)
  have r1 := heap_alloc_last w (.cells (m.cells ai ci ao co) 43)
  have c1 : (w.alloc (.cells (m.cells ai ci ao co) 43)).cell? ⟨w.heap.size, 1, none⟩ = some (.slice ai m.ins.length ci) := by rw [cell_of_row _ _ _ _ _ _ r1]; rfl
  have R1 := hide r1
  have HF := hide hf
  have HL := hide (hl.below b1)
  have B1 := hide b1
  clear hf hl b1 r1
  generalize hC : m.cells ai ci ao co = C at *
  go_enter Tryz.func30, Tryz.ntmps30
  go_upto_region 1 with ((with_reducible refine at_list ?_); refine wpList_boxA rfl _ rfl C rfl ?_)
  generalize w.alloc (.cells C 43) = W1 at *
  go_upto_region 2 with fail
  clear c1
  go_loopw [10] (fun i wr => ∃ k : Nat, k ≤ m.ins.length ∧ i = .int .i64 (k : Int) ∧ Hid ((m.ins.take k).any longI = false ∧ Below W1.heap.size W1 wr)) (fun i _ => (m.ins.length - intOf i).toNat)
  case atStart => exact ⟨0, Nat.zero_le _, rfl, by simp, Below.refl _ _⟩
  case round =>
    obtain ⟨k, hk, rfl, J⟩ := hrel
    by_cases hlt : k < m.ins.length
    · have h1 : (k : Int) < (m.ins.length : Int) := by omega
      have h2 : (0 : Int) ≤ (k : Int) := by omega
      have h5 := HF.out.i
      have e1 : IntKind.i64.wrap ((k : Int) + 1) = k + 1 := wrapI _ (by omega) (by omega)
      have KK := hide (And.intro (show k + 1 ≤ m.ins.length by omega) (show ((m.ins.length : Int) - ((k : Int) + 1)).toNat < ((m.ins.length : Int) - (k : Int)).toNat by omega))
      obtain ⟨ga, oa, rfl⟩ := HL.out.i.base (by omega)
      have RG : Hid (wr.rangeAt ga (oa + k * 35) m.ins[k].cells) := (HL.out.below J.out.2).i.range k hlt
      have AH := hide (any_here longI m.ins k hlt)
      have AT := hide (fun h => any_take longI m.ins k hlt J.out.1 h)
      have JB := hide J.out.2
      generalize m.ins[k] = x at *
      clear hk hlt h5 J
      go_upto_region 4 with ((with_reducible refine at_list ?_); first | refine wpLoadIr _ rfl ga (oa + k * 35) rfl x RG.out (by rfl) ?_ | refine wpList_allocA zAr' rfl rfl ?_ | refine wpList_store_newA zAr' rfl _ _ rfl _ rfl x.cells.toArray x.size x.all rfl rfl ?_)
      have c5 : (wr.alloc (.cells x.cells.toArray 98)).cell? ⟨wr.heap.size, 33, none⟩ = some (.string x.key) := by rw [cell_of_row _ _ _ _ _ _ (heap_alloc_last wr _)]; exact x.at33
      have J2 : Hid (Below W1.heap.size W1 (wr.alloc (.cells x.cells.toArray 98))) := JB.out.alloc JB.out.size _
      generalize wr.alloc (.cells x.cells.toArray 98) = wr2 at *
      clear JB RG
      by_cases hq : 520 < x.key.size
      · have hq2 : (x.key.size : Int) > 520 := by omega
        have AH2 := hide (AH.out (decide_eq_true hq))
        clear hq AH AT
        go_wp2
        go_ret
        exact ⟨by rw [Tm.toldE, if_pos AH2.out]; rfl, B1.out.trans (J2.out.mono B1.out.size)⟩
      · have hq2 : ¬ (x.key.size : Int) > 520 := by omega
        have AT2 := hide (AT.out (decide_eq_false hq))
        clear hq AH AT
        go_wp2
        exact ⟨⟨k + 1, KK.out.1, by go_num, AT2.out, J2.out⟩, by simpa [intOf] using KK.out.2⟩
    · have h1 : ¬ (k : Int) < (m.ins.length : Int) := by omega
      have NI := hide J.out.1
      rw [List.take_of_length_le (by omega)] at NI
      have L2 := hide ((HL.out.below J.out.2))
      have R2 := hide ((J.out.2.block _ (lt_heap R1.out)).trans R1.out)
      have c4 : wr.cell? ⟨w.heap.size, 2, none⟩ = some (.slice ao m.outs.length co) := by rw [cell_of_row _ _ _ _ _ _ R2.out, ← hC]; rfl
      have B3 := hide (B1.out.trans (J.out.2.mono B1.out.size))
      clear hk hlt J HL R1 B1
      go_upto_region 8 with fail
      clear c4 h1
      obtain ⟨W2, hW2⟩ : ∃ x, x = wr := ⟨_, rfl⟩
      subst hW2
      go_loopw [22] (fun i wr => ∃ k : Nat, k ≤ m.outs.length ∧ i = .int .i64 (k : Int) ∧ Hid ((m.outs.take k).any longO = false ∧ Below W2.heap.size W2 wr)) (fun i _ => (m.outs.length - intOf i).toNat)
      case atStart => exact ⟨0, Nat.zero_le _, rfl, by simp, Below.refl _ _⟩
      case round =>
        obtain ⟨k, hk, rfl, J⟩ := hrel
        by_cases hlt : k < m.outs.length
        · have h1 : (k : Int) < (m.outs.length : Int) := by omega
          have h2 : (0 : Int) ≤ (k : Int) := by omega
          have h5 := HF.out.o
          have e1 : IntKind.i64.wrap ((k : Int) + 1) = k + 1 := wrapI _ (by omega) (by omega)
          have KK := hide (And.intro (show k + 1 ≤ m.outs.length by omega) (show ((m.outs.length : Int) - ((k : Int) + 1)).toNat < ((m.outs.length : Int) - (k : Int)).toNat by omega))
          obtain ⟨ga, oa, rfl⟩ := L2.out.o.base (by omega)
          have RG : Hid (wr.rangeAt ga (oa + k * 2) m.outs[k].cells) := (L2.out.below J.out.2).o.range k hlt
          have AH := hide (any_here longO m.outs k hlt)
          have AT := hide (fun h => any_take longO m.outs k hlt J.out.1 h)
          have JB := hide J.out.2
          generalize m.outs[k] = x at *
          clear hk hlt h5 J
          go_upto_region 10 with ((with_reducible refine at_list ?_); first | refine wpLoadOr _ rfl ga (oa + k * 2) rfl x RG.out (by rfl) ?_ | refine wpList_allocA zOr' rfl rfl ?_ | refine wpList_store_newA zOr' rfl _ _ rfl _ rfl x.cells.toArray rfl x.all rfl rfl ?_)
          have c5 : (wr.alloc (.cells x.cells.toArray 99)).cell? ⟨wr.heap.size, 1, none⟩ = some (.string x.lock) := by rw [cell_of_row _ _ _ _ _ _ (heap_alloc_last wr _)]; rfl
          have J2 : Hid (Below W2.heap.size W2 (wr.alloc (.cells x.cells.toArray 99))) := JB.out.alloc JB.out.size _
          generalize wr.alloc (.cells x.cells.toArray 99) = wr2 at *
          clear JB RG
          by_cases hq : 520 < x.lock.size
          · have hq2 : (x.lock.size : Int) > 520 := by omega
            have AH2 := hide (AH.out (decide_eq_true hq))
            clear hq AH AT
            go_wp2
            go_ret
            exact ⟨by rw [Tm.toldE, if_neg (by rw [NI.out]; decide), if_pos AH2.out]; rfl, B3.out.trans (J2.out.mono B3.out.size)⟩
          · have hq2 : ¬ (x.lock.size : Int) > 520 := by omega
            have AT2 := hide (AT.out (decide_eq_false hq))
            clear hq AH AT
            go_wp2
            exact ⟨⟨k + 1, KK.out.1, by go_num, AT2.out, J2.out⟩, by simpa [intOf] using KK.out.2⟩
        · have h1 : ¬ (k : Int) < (m.outs.length : Int) := by omega
          have NO := hide J.out.1
          rw [List.take_of_length_le (by omega)] at NO
          have R3 := hide ((J.out.2.block _ (lt_heap R2.out)).trans R2.out)
          have B4 := hide (B3.out.trans (J.out.2.mono B3.out.size))
          have HZ : Hid (Calls Tryz.prog 67 #[.agg C] wr fun e w' => e = .returned (.string (txt m.bytes)) ∧ Below wr.heap.size wr w') := by
            show Calls _ _ _ _ _
            rw [← hC]
            exact tbytesR_any m ai ci ao co wr (L2.out.below J.out.2) HF.out (m.small HF.out NI.out NO.out)
          have HCs : Hid (C.size = 4) := by show _ = _; rw [← hC]; rfl
          have hT : m.toldE = if 4096 < m.bytes.length then 101 else 0 := by rw [Tm.toldE, if_neg (by rw [NI.out]; decide), if_neg (by rw [NO.out]; decide)]
          by_cases hq : 4096 < m.bytes.length
          · have hq2 : (m.bytes.length : Int) > 4096 := by omega
            rw [if_pos hq] at hT
            have HTT := hide hT
            clear hq hT hk hlt J NI NO
            have hz : (txt m.bytes).size = m.bytes.length := txt_sz _
            rw [← hz] at hq2
            clear hz
            generalize txt m.bytes = N at *
            go_wp2_with (first | (go_at_call 67; with_reducible refine HZ.out.mono ?_; rintro e W3 ⟨rfl, b3⟩; have B5 := hide (below_next B4.out b3); clear b3) | ((with_reducible refine at_list ?_); refine wpList_loadS ATr _ rfl w.heap.size rfl C HCs.out 43 R3.out (by rfl) ?_))
            go_ret
            exact ⟨by rw [HTT.out]; rfl, B5.out⟩
          · have hq2 : decide ((m.bytes.length : Int) > 4096) = false := decide_eq_false (by omega)
            rw [if_neg hq] at hT
            have HTT := hide hT
            clear hq hT hk hlt J NI NO
            have hz : (txt m.bytes).size = m.bytes.length := txt_sz _
            rw [← hz] at hq2
            clear hz
            generalize txt m.bytes = N at *
            go_wp2_with (first | (go_at_call 67; with_reducible refine HZ.out.mono ?_; rintro e W3 ⟨rfl, b3⟩; have B5 := hide (below_next B4.out b3); clear b3) | ((with_reducible refine at_list ?_); refine wpList_loadS ATr _ rfl w.heap.size rfl C HCs.out 43 R3.out (by rfl) ?_))
            go_ret
            exact ⟨by rw [HTT.out]; rfl, B5.out⟩
end
end Go.Proofs.YtofddbjnncgmlabGreatDoor
namespace Go.Proofs.YtofddbjnncgmlabGreatDoor
open Go.RowKit
open Go.Deep
set_option linter.unusedVariables false
/-- A transaction's id. -/
def Tm.idT (m : Tm) : List UInt8 := if m.toldE = 0 then dg2 (txt m.bytes) else zeros
theorem Tm.idT_len (m : Tm) : m.idT.length = 32 := by
  unfold Tm.idT
  split
  · exact dg2_len _
  · exact zeros_len
section
set_option maxRecDepth 10000
set_option maxHeartbeats 4000000
theorem id_any (m : Tm) (ai : Option Addr) (ci : Nat) (ao : Option Addr) (co : Nat) (w : World) (hK : Kg w) (hl : LT w m ai ci ao co) (hf : m.fit) : Calls Tryz.prog 40 #[.agg (m.cells ai ci ao co)] w fun e w' => e = .returned (.tuple #[.agg (hc m.idT), .int .i64 m.toldE]) ∧ Below w.heap.size w w' := by
  have b1 := (Below.refl w.heap.size w).alloc (Nat.le_refl _) (.cells (m.cells ai ci ao co) 90)
  have hsz : (w.alloc (.cells (m.cells ai ci ao co) 90)).heap.size = w.heap.size + 1 := by simp
  have b2 := b1.alloc (by rw [hsz]; omega) (.cells (hc zeros) 25)
  have e1 := heap_alloc_last w (.cells (m.cells ai ci ao co) 90)
  have r1 := (Below.heap_alloc _ (.cells (hc zeros) 25) _ (lt_heap e1)).trans e1
  have r2 := heap_alloc_last (w.alloc (.cells (m.cells ai ci ao co) 90)) (.cells (hc zeros) 25)
  rw [hsz] at r2
  have HL := hide (hl.below b2)
  have HF := hide hf
  have R1 := hide r1
  have R2 := hide r2
  have B2 := hide b2
  have CZ : Hid ((m.cells ai ci ao co).size = 4) := rfl
  have KS := hide (hK.next b2)
  clear b1 b2 e1 r1 r2 hl hf hK
  have HE : Hid (∀ W, LT W m ai ci ao co → Calls Tryz.prog 77 #[.agg (m.cells ai ci ao co)] W fun e w' => e = .returned (.tuple #[.string m.encT, .int .i64 m.toldE]) ∧ Below W.heap.size W w') := fun W l => encode_any m ai ci ao co W l HF.out
  generalize m.cells ai ci ao co = C at *
  by_cases h0 : m.toldE = 0
  · have hI : m.idT = dg2 (txt m.bytes) := by rw [Tm.idT, if_pos h0]
    have hE : m.encT = txt m.bytes := by rw [Tm.encT, if_pos h0]
    have hB := (m.told0 h0).2.2
    rw [hI, h0]
    rw [hE, h0] at HE
    have HT : Hid (∀ W, Kg W → Calls Tryz.prog 45 #[.string (txt m.bytes)] W fun e w' => e = .returned (.agg (hc (dg2 (txt m.bytes)))) ∧ Below W.heap.size W w') := fun W g => twice_any (txt m.bytes) (by rw [txt_sz]; omega) W g
    have h1 : Hid ((hc (dg2 (txt m.bytes))).size = 32) := by show _ = _; rw [hc_size, dg2_len]
    have h2 := hide (hc_one (dg2 (txt m.bytes)))
    clear hI hE hB h0 HF
    generalize hc (dg2 (txt m.bytes)) = D at *
    generalize txt m.bytes = T at *
    go_enter Tryz.func40, Tryz.ntmps40
    go_upto_region 1 with ((with_reducible refine at_list ?_); first | refine wpList_boxA rfl _ rfl C rfl ?_ | refine wpList_allocA A25 rfl rfl ?_)
    try rw [hsz]
    clear hsz
    generalize (w.alloc (.cells C 90)).alloc (.cells (hc zeros) 25) = W0 at *
    go_wp2_with (first | (go_at_call 77; refine (HE.out _ HL.out).mono ?_; rintro r W1 ⟨rfl, b1⟩; have D1 := hide b1; clear b1) | (go_at_call 45; refine (HT.out _ (KS.out.next D1.out)).mono ?_; rintro r W2 ⟨rfl, b1⟩; have D2 := hide (below_next D1.out b1); clear b1; have R4 := hide ((D2.out.block _ (lt_heap R2.out)).trans R2.out)) | ((with_reducible refine at_list ?_); first | refine wpList_loadS AT _ rfl w.heap.size rfl C CZ.out 90 R1.out (by rfl) ?_ | refine wpList_storeA A25 rfl _ _ rfl (w.heap.size + 1) D h1.out h2.out rfl rfl (hc zeros) (by rw [hc_size, zeros_len]) 25 R4.out ?_))
    exact bodyPost_ret (v := .tuple #[.agg D, .int .i64 0]) (resA2K A25 Tryz.results40 _ _ (w.heap.size + 1) 25 _ h1.out rfl (setRow_heap _ _ _ _ _ _ R4.out) _ rfl) rfl ⟨rfl, below_setRow (below_next B2.out D2.out) (by omega) _⟩
  · have hI : m.idT = zeros := by rw [Tm.idT, if_neg h0]
    have hE : m.encT = ⟨#[]⟩ := by rw [Tm.encT, if_neg h0]
    rw [hI]
    rw [hE] at HE
    clear hI hE HF
    generalize m.toldE = E at *
    go_enter Tryz.func40, Tryz.ntmps40
    go_upto_region 1 with ((with_reducible refine at_list ?_); first | refine wpList_boxA rfl _ rfl C rfl ?_ | refine wpList_allocA A25 rfl rfl ?_)
    try rw [hsz]
    clear hsz
    generalize (w.alloc (.cells C 90)).alloc (.cells (hc zeros) 25) = W0 at *
    go_wp2_with (first | (go_at_call 77; refine (HE.out _ HL.out).mono ?_; rintro r W1 ⟨rfl, b1⟩; have D1 := hide b1; clear b1; have R4 := hide ((D1.out.block _ (lt_heap R2.out)).trans R2.out)) | ((with_reducible refine at_list ?_); first | refine wpList_loadS AT _ rfl w.heap.size rfl C CZ.out 90 R1.out (by rfl) ?_ | refine wpList_buildA A25 rfl rfl ?_ | refine wpList_storeA A25 rfl _ _ rfl (w.heap.size + 1) (hc zeros) (by rw [hc_size, zeros_len]) (hc_one _) rfl rfl (hc zeros) (by rw [hc_size, zeros_len]) 25 R4.out ?_))
    exact bodyPost_ret (v := .tuple #[.agg (hc zeros), .int .i64 E]) (resA2K A25 Tryz.results40 _ _ (w.heap.size + 1) 25 _ (by rw [hc_size, zeros_len]) rfl (setRow_heap _ _ _ _ _ _ R4.out) _ rfl) rfl ⟨rfl, below_setRow (below_next B2.out D1.out) (by omega) _⟩
theorem rid_any (m : Tm) (ai : Option Addr) (ci : Nat) (ao : Option Addr) (co : Nat) (w : World) (hl : LR w m ai ci ao co) (hf : m.fit) : Calls Tryz.prog 75 #[.agg (m.cells ai ci ao co)] w fun e w' => e = .returned (.tuple #[.agg (hc m.idT), .bool (decide (m.toldE = 0))]) ∧ Below w.heap.size w w' := by
  have b1 := (Below.refl w.heap.size w).alloc (Nat.le_refl _) (.cells (m.cells ai ci ao co) 43)
  have hsz : (w.alloc (.cells (m.cells ai ci ao co) 43)).heap.size = w.heap.size + 1 := by simp
  have b2 := b1.alloc (by rw [hsz]; omega) (.cells (hc zeros) 24)
  have e1 := heap_alloc_last w (.cells (m.cells ai ci ao co) 43)
  have r1 := (Below.heap_alloc _ (.cells (hc zeros) 24) _ (lt_heap e1)).trans e1
  have r2 := heap_alloc_last (w.alloc (.cells (m.cells ai ci ao co) 43)) (.cells (hc zeros) 24)
  rw [hsz] at r2
  have HL := hide (hl.below b2)
  have HF := hide hf
  have R1 := hide r1
  have R2 := hide r2
  have B2 := hide b2
  have CZ : Hid ((m.cells ai ci ao co).size = 4) := rfl
  clear b1 b2 e1 r1 r2 hl hf
  have HE : Hid (∀ W, LR W m ai ci ao co → Calls Tryz.prog 30 #[.agg (m.cells ai ci ao co)] W fun e w' => e = .returned (.int .i64 m.toldE) ∧ Below W.heap.size W w') := fun W l => rtold_any m ai ci ao co W l HF.out
  have HY : Hid (∀ W, LR W m ai ci ao co → m.bytes.length ≤ 9223372036854775807 → Calls Tryz.prog 67 #[.agg (m.cells ai ci ao co)] W fun e w' => e = .returned (.string (txt m.bytes)) ∧ Below W.heap.size W w') := fun W l h => tbytesR_any m ai ci ao co W l HF.out h
  generalize m.cells ai ci ao co = C at *
  by_cases h0 : m.toldE = 0
  · have hI : m.idT = dg2 (txt m.bytes) := by rw [Tm.idT, if_pos h0]
    have hB := (m.told0 h0).2.2
    rw [hI, h0]
    rw [h0] at HE
    have HT : Hid (∀ W, Calls Tryz.prog 24 #[.string (txt m.bytes)] W fun e w' => e = .returned (.agg (hc (dg2 (txt m.bytes)))) ∧ Below W.heap.size W w') := fun W => rtwice_any (txt m.bytes) (by rw [txt_sz]; omega) W
    have h1 : Hid ((hc (dg2 (txt m.bytes))).size = 32) := by show _ = _; rw [hc_size, dg2_len]
    have h2 := hide (hc_one (dg2 (txt m.bytes)))
    have HZ := hide (fun W l => HY.out W l (by omega))
    clear hI hB h0 HF HY
    generalize hc (dg2 (txt m.bytes)) = D at *
    generalize txt m.bytes = T at *
    go_enter Tryz.func75, Tryz.ntmps75
    go_upto_region 1 with ((with_reducible refine at_list ?_); first | refine wpList_boxA rfl _ rfl C rfl ?_ | refine wpList_allocA A24 rfl rfl ?_)
    try rw [hsz]
    clear hsz
    generalize (w.alloc (.cells C 43)).alloc (.cells (hc zeros) 24) = W0 at *
    go_wp2_with (first | (go_at_call 30; refine (HE.out _ HL.out).mono ?_; rintro r W1 ⟨rfl, b1⟩; have D1 := hide b1; clear b1; have R3 := hide ((D1.out.block _ (lt_heap R1.out)).trans R1.out)) | (go_at_call 67; refine (HZ.out _ (HL.out.below D1.out)).mono ?_; rintro r W2 ⟨rfl, b1⟩; have D2 := hide (below_next D1.out b1); clear b1) | (go_at_call 24; refine (HT.out _).mono ?_; rintro r W3 ⟨rfl, b1⟩; have D3 := hide (below_next D2.out b1); clear b1; have R4 := hide ((D3.out.block _ (lt_heap R2.out)).trans R2.out)) | ((with_reducible refine at_list ?_); first | refine wpList_loadS ATr _ rfl w.heap.size rfl C CZ.out 43 R1.out (by rfl) ?_ | refine wpList_loadS ATr _ rfl w.heap.size rfl C CZ.out 43 R3.out (by rfl) ?_ | refine wpList_storeA A24 rfl _ _ rfl (w.heap.size + 1) D h1.out h2.out rfl rfl (hc zeros) (by rw [hc_size, zeros_len]) 24 R4.out ?_))
    exact bodyPost_ret (v := .tuple #[.agg D, .bool true]) (resA2K A24 Tryz.results75 _ _ (w.heap.size + 1) 24 _ h1.out rfl (setRow_heap _ _ _ _ _ _ R4.out) _ rfl) rfl ⟨rfl, below_setRow (below_next B2.out D3.out) (by omega) _⟩
  · have hI : m.idT = zeros := by rw [Tm.idT, if_neg h0]
    rw [hI, decide_eq_false h0]
    clear hI HF HY
    generalize m.toldE = E at *
    go_enter Tryz.func75, Tryz.ntmps75
    go_upto_region 1 with ((with_reducible refine at_list ?_); first | refine wpList_boxA rfl _ rfl C rfl ?_ | refine wpList_allocA A24 rfl rfl ?_)
    try rw [hsz]
    clear hsz
    generalize (w.alloc (.cells C 43)).alloc (.cells (hc zeros) 24) = W0 at *
    go_wp2_with (first | (go_at_call 30; refine (HE.out _ HL.out).mono ?_; rintro r W1 ⟨rfl, b1⟩; have D1 := hide b1; clear b1; have R4 := hide ((D1.out.block _ (lt_heap R2.out)).trans R2.out)) | ((with_reducible refine at_list ?_); first | refine wpList_loadS ATr _ rfl w.heap.size rfl C CZ.out 43 R1.out (by rfl) ?_ | refine wpList_buildA A24 rfl rfl ?_ | refine wpList_storeA A24 rfl _ _ rfl (w.heap.size + 1) (hc zeros) (by rw [hc_size, zeros_len]) (hc_one _) rfl rfl (hc zeros) (by rw [hc_size, zeros_len]) 24 R4.out ?_))
    exact bodyPost_ret (v := .tuple #[.agg (hc zeros), .bool false]) (resA2K A24 Tryz.results75 _ _ (w.heap.size + 1) 24 _ (by rw [hc_size, zeros_len]) rfl (setRow_heap _ _ _ _ _ _ R4.out) _ rfl) rfl ⟨rfl, below_setRow (below_next B2.out D1.out) (by omega) _⟩
end
end Go.Proofs.YtofddbjnncgmlabGreatDoor
namespace Go.Proofs.YtofddbjnncgmlabGreatDoor
open Go.RowKit
open Go.Deep
/-- The cells of ids. -/
def flat : List (List UInt8) → List Value
  | [] => []
  | h :: r => cellsL h ++ flat r
/-- Each id has 32 bytes. -/
def H32 (L : List (List UInt8)) : Prop := ∀ h ∈ L, h.length = 32
theorem H32.nil : H32 [] := fun h hh => by cases hh
theorem H32.cons {a : List UInt8} {L : List (List UInt8)} (ha : a.length = 32) (h : H32 L) : H32 (a :: L) := fun x hx => by
  rcases List.mem_cons.1 hx with rfl | hx
  · exact ha
  · exact h x hx
theorem H32.head {a : List UInt8} {L : List (List UInt8)} (h : H32 (a :: L)) : a.length = 32 := h a (by simp)
theorem H32.tail {a : List UInt8} {L : List (List UInt8)} (h : H32 (a :: L)) : H32 L := fun x hx => h x (by simp [hx])
theorem H32.app {A B : List (List UInt8)} (ha : H32 A) (hb : H32 B) : H32 (A ++ B) := fun x hx => by
  rcases List.mem_append.1 hx with hx | hx
  · exact ha x hx
  · exact hb x hx
theorem H32.one {a : List UInt8} (ha : a.length = 32) : H32 [a] := H32.nil.cons ha
/-- The id at a place. -/
def ia (L : List (List UInt8)) (i : Nat) : List UInt8 := L.getD i []
theorem ia_get (L : List (List UInt8)) (i : Nat) (h : i < L.length) : ia L i = L[i] := by simp [ia, h]
theorem H32.at {L : List (List UInt8)} (h : H32 L) (i : Nat) (hi : i < L.length) : (ia L i).length = 32 := by
  rw [ia_get L i hi]
  exact h _ (List.getElem_mem hi)
theorem flat_len {L : List (List UInt8)} (h : H32 L) : (flat L).length = L.length * 32 := by
  induction L with
  | nil => rfl
  | cons a r ih =>
    rw [flat, List.length_append, cellsL_len, h.head, ih h.tail, List.length_cons]
    omega
theorem flat_app (A B : List (List UInt8)) : flat (A ++ B) = flat A ++ flat B := by
  induction A with
  | nil => rfl
  | cons a r ih => rw [List.cons_append, flat, flat, ih, List.append_assoc]
theorem flat_one (a : List UInt8) : flat [a] = cellsL a := by simp [flat]
theorem flat_at {L : List (List UInt8)} (h : H32 L) : ∀ (i : Nat), i < L.length → ∀ j, j < 32 → (flat L)[i * 32 + j]? = (cellsL (ia L i))[j]? := by
  induction L with
  | nil => intro i hi; simp at hi
  | cons a r ih =>
    intro i hi j hj
    have ha : (cellsL a).length = 32 := by rw [cellsL_len, h.head]
    rcases i with _ | i
    · rw [flat, List.getElem?_append_left (by omega)]
      simp [ia]
    · rw [flat, List.getElem?_append_right (by omega), ha, show (i + 1) * 32 + j - 32 = i * 32 + j by omega, ih h.tail i (by simpa using hi) j hj]
      rfl
theorem flat_cell (L : List (List UInt8)) : ∀ v ∈ flat L, v.oneCell' = true := by
  induction L with
  | nil => intro v hv; cases hv
  | cons a r ih =>
    intro v hv
    rw [flat, List.mem_append] at hv
    rcases hv with hv | hv
    · simp only [cellsL, List.mem_map] at hv
      obtain ⟨b, _, rfl⟩ := hv
      rfl
    · exact ih v hv
/-- A slice that holds ids. -/
def LH (w : World) (v : Value) (L : List (List UInt8)) : Prop := H32 L ∧ ∃ ao cap, v = .slice ao L.length cap ∧ L.length ≤ cap ∧ ∀ i, i < L.length → ∃ g off, ao = some ⟨g, off, none⟩ ∧ g < w.heap.size ∧ w.rangeAt g (off + i * 32) (cellsL (ia L i))
theorem range_belowM {w W : World} {B g off : Nat} {cs : List Value} (hr : w.rangeAt g off cs) (hb : Below B w W) (hg : g < B) : W.rangeAt g off cs := fun j v hv => by
  have := hr j v hv
  rw [← this]
  exact hb.cell (p := ⟨g, off + j, none⟩) hg
theorem range_block {w W : World} {g off : Nat} {cs : List Value} (hr : w.rangeAt g off cs) (hb : W.heap[g]? = w.heap[g]?) : W.rangeAt g off cs := fun j v hv => by
  rw [← hr j v hv]
  exact World.cell?_of_block (w := w) (a := ⟨g, off + j, none⟩) hb
theorem LH.below {w W : World} {v : Value} {L : List (List UInt8)} (h : LH w v L) (hb : Below w.heap.size w W) : LH W v L := by
  obtain ⟨h1, ao, cap, rfl, h2, h3⟩ := h
  refine ⟨h1, ao, cap, rfl, h2, fun i hi => ?_⟩
  obtain ⟨g, off, e, hg, hr⟩ := h3 i hi
  exact ⟨g, off, e, Nat.lt_of_lt_of_le hg hb.size, range_belowM hr hb hg⟩
theorem LH.drew {w : World} {v : Value} {L : List (List UInt8)} (h : LH w v L) : LH w.drew v L := h.below (Below.refl _ _).drew
/-- A slice of the program's own making that holds ids. -/
def OH (e : TypeId) (w : World) (v : Value) (L : List (List UInt8)) : Prop := H32 L ∧ w.ownsRow 0 e 32 v L.length (flat L)
theorem OH.nil (e : TypeId) (w : World) : OH e w (.slice none 0 0) [] := ⟨H32.nil, World.ownsRow_nil _ _ _ _⟩
theorem OH.alloc {e : TypeId} {w : World} {v : Value} {L : List (List UInt8)} (h : OH e w v L) (o : Obj) : OH e (w.alloc o) v L := ⟨h.1, World.ownsRow.alloc h.2 o⟩
theorem OH.form {e : TypeId} {w : World} {v : Value} {L : List (List UInt8)} (h : OH e w v L) : ∃ ao c, v = .slice ao L.length c := by
  rcases h.2.2 with ⟨rfl, h0⟩ | ⟨g, cap, cur, rfl, _⟩
  · exact ⟨none, 0, by rw [h0]⟩
  · exact ⟨_, _, rfl⟩
theorem OH.read {e : TypeId} {w : World} {v : Value} {L : List (List UInt8)} (h : OH e w v L) : LH w v L := by
  obtain ⟨h1, h2, h3⟩ := h
  rcases h3 with ⟨rfl, h0⟩ | ⟨g, cap, cur, rfl, hb, hg, hn, hm, hsz, ht⟩
  · exact ⟨h1, none, 0, by rw [h0], by omega, fun i hi => by omega⟩
  · refine ⟨h1, _, cap, rfl, hn, fun i hi => ⟨g, 0, rfl, lt_heap hg, fun j u hu => ?_⟩⟩
    have hj : j < 32 := by
      have := (List.getElem?_eq_some_iff.1 hu).1
      rw [cellsL_len, h1.at i hi] at this
      exact this
    rw [cell_of_row w g _ cur e (0, 0) hg, ← Array.getElem?_toList]
    have e2 := flat_at h1 i hi j hj
    rw [hu, ← ht, List.getElem?_take] at e2
    rw [if_pos (by have : i * 32 + 32 ≤ L.length * 32 := by omega
                   omega)] at e2
    rw [show 0 + i * 32 + j = i * 32 + j by omega]
    exact e2
theorem OH.of_block {e : TypeId} {w W : World} {v : Value} {L : List (List UInt8)} (h : OH e w v L) (hb : ∀ g, v.ownBlock = some g → W.heap[g]? = w.heap[g]?) : OH e W v L := by
  obtain ⟨h1, h2, h3⟩ := h
  refine ⟨h1, h2, ?_⟩
  rcases h3 with ⟨rfl, h0⟩ | ⟨g, cap, cur, rfl, h4, hg, h5⟩
  · exact .inl ⟨rfl, h0⟩
  · exact .inr ⟨g, cap, cur, rfl, h4, (hb g rfl).trans hg, h5⟩
theorem OH.lt {e : TypeId} {w : World} {v : Value} {L : List (List UInt8)} (h : OH e w v L) : ∀ g, v.ownBlock = some g → g < w.heap.size := by
  intro g hg
  rcases h.2.2 with ⟨rfl, h0⟩ | ⟨g', cap, cur, rfl, h4, hb, h5⟩
  · cases hg
  · cases hg
    exact lt_heap hb
theorem OH.below {e : TypeId} {w W : World} {v : Value} {L : List (List UInt8)} (h : OH e w v L) (hb : Below w.heap.size w W) : OH e W v L := h.of_block fun g hg => hb.block _ (h.lt g hg)
/-! ### the element types -/
/-- An id's type, and the type of a slice of such. -/
structure ET (t e : TypeId) : Prop where
  sl : Tryz.prog.underlying t = some (.slice e)
  ar : Tryz.prog.underlying e = some (.array 32 5)
  inf : (Tryz.prog.info? e).map (fun i => (i.zero.map (·.cells.size), i.size, i.bytes)) = some (some 32, 32, 32)
theorem EH : ET 161 25 := ⟨Tryz.underlying161, Tryz.underlying25, by kernel_rfl⟩
theorem ER : ET 170 24 := ⟨Tryz.underlying170, Tryz.underlying24, by kernel_rfl⟩
theorem ET.parts {t e : TypeId} (E : ET t e) : ∃ i z, Tryz.prog.info? e = some i ∧ i.zero = some z ∧ z.cells.size = 32 ∧ i.size = 32 ∧ i.bytes = 32 := by
  have h := E.inf
  cases hi : Tryz.prog.info? e with
  | none => rw [hi] at h; cases h
  | some i =>
    rw [hi] at h
    simp only [Option.map_some, Option.some.injEq, Prod.mk.injEq] at h
    obtain ⟨h1, h2, h3⟩ := h
    cases hz : i.zero with
    | none => rw [hz] at h1; cases h1
    | some z =>
      rw [hz] at h1
      exact ⟨i, z, rfl, hz, by simpa using h1, h2, h3⟩
/-- The load of an id out of memory. -/
theorem ET.load {t e : TypeId} (E : ET t e) {W : World} {g off : Nat} {l : List UInt8} (hl : l.length = 32) (hr : W.rangeAt g off (cellsL l)) : (Instr.loadAt e (.pointer (some ⟨g, off, none⟩))).run Tryz.prog W = .ok (.agg (hc l)) W := by
  obtain ⟨i, z, hi, _, _, hs, _⟩ := E.parts
  exact run_loadAt_mid W g off e _ _ hr E.ar rfl (by rw [hi, cellsL_len, hl]; simp [hs])
/-- An append of ids. -/
theorem ET.app {t e : TypeId} (E : ET t e) {w : World} {ty : TypeId} {v : Value} {L : List (List UInt8)} (hown : OH e w v L) (ad : Addr) (m c : Nat) (N : List (List UInt8)) (hN : H32 N) (hm : m = N.length) (hnews : ∀ j u, (flat N)[j]? = some u → w.cell? (ad.add j) = some u)
    (hsm : L.length + m ≤ 4398046511104) :
    ∃ v' w', (Builtin.append_ #[t, t] ty #[v, .slice (some ad) m c]).run Tryz.prog w = .ok v' w' ∧ OH e w' v' (L ++ N) ∧ Onto w w' v v' := by
  obtain ⟨i0, z, hi, hz0, hzs, hz1, hz2⟩ := E.parts
  obtain ⟨v', w', hr, h2, h3, _, h5⟩ := run_append_own_at (P := Tryz.prog) w 0 t ty e i0 z 32 32 E.sl hi hz0 hz1 hz2 hzs (by decide) v L.length (flat L) hown.2 ad m c (flat N) (by rw [flat_len hN, hm]) hnews
    (flat_cell N) (by unfold maxLen; omega) (by omega) (Nat.zero_le _)
  refine ⟨v', w', hr, ⟨hown.1.app hN, ?_⟩, ⟨h3, ?_⟩⟩
  · rw [List.length_append, flat_app, ← hm]
    exact h2
  · rcases h5 with h5 | h5
    · exact .inl h5
    · exact .inr ⟨_, h5, Nat.le_refl _⟩
end Go.Proofs.YtofddbjnncgmlabGreatDoor
