/- tx.ID and the document's ID: their contracts. -/
import Derived.Test.YtfldpejdpinppaaDoorKyc
import Derived.Test.YtfldpejdpinppaaDoorKwa
namespace Go.Proofs.YtfldpejdpinppaaDoor
open Go.RowKit
open Go.Deep
set_option linter.unusedVariables false
/-- A transaction's id. -/
def Tm.idT (m : Tm) : List UInt8 := if m.toldE = 0 then dg2 (txt m.bytes) else zeros
theorem Tm.idT_len (m : Tm) : m.idT.length = 32 := by
  unfold Tm.idT
  split
  · exact dg2_len _
  · exact zeros_len
section
set_option maxRecDepth 10000
set_option maxHeartbeats 4000000
theorem id_any (m : Tm) (ai : Option Addr) (ci : Nat) (ao : Option Addr) (co : Nat) (w : World) (hK : Kg w) (hl : LT w m ai ci ao co) (hf : m.fit) : Calls Tryd.prog 6 #[.agg (m.cells ai ci ao co)] w fun e w' => e = .returned (.tuple #[.agg (hc m.idT), .int .i64 m.toldE]) ∧ Below w.heap.size w w' := by
  have b1 := (Below.refl w.heap.size w).alloc (Nat.le_refl _) (.cells (m.cells ai ci ao co) 26)
  have hsz : (w.alloc (.cells (m.cells ai ci ao co) 26)).heap.size = w.heap.size + 1 := by simp
  have b2 := b1.alloc (by rw [hsz]; omega) (.cells (hc zeros) 31)
  have e1 := heap_alloc_last w (.cells (m.cells ai ci ao co) 26)
  have r1 := (Below.heap_alloc _ (.cells (hc zeros) 31) _ (lt_heap e1)).trans e1
  have r2 := heap_alloc_last (w.alloc (.cells (m.cells ai ci ao co) 26)) (.cells (hc zeros) 31)
  rw [hsz] at r2
  have HL := hide (hl.below b2)
  have HF := hide hf
  have R1 := hide r1
  have R2 := hide r2
  have B2 := hide b2
  have CZ : Hid ((m.cells ai ci ao co).size = 4) := rfl
  have KS := hide (hK.next b2)
  clear b1 b2 e1 r1 r2 hl hf hK
  have HE : Hid (∀ W, LT W m ai ci ao co → Calls Tryd.prog 5 #[.agg (m.cells ai ci ao co)] W fun e w' => e = .returned (.tuple #[.string m.encT, .int .i64 m.toldE]) ∧ Below W.heap.size W w') := fun W l => encode_any m ai ci ao co W l HF.out
  generalize m.cells ai ci ao co = C at *
  by_cases h0 : m.toldE = 0
  · have hI : m.idT = dg2 (txt m.bytes) := by rw [Tm.idT, if_pos h0]
    have hE : m.encT = txt m.bytes := by rw [Tm.encT, if_pos h0]
    have hB := (m.told0 h0).2.2
    rw [hI, h0]
    rw [hE, h0] at HE
    have HT : Hid (∀ W, Kg W → Calls Tryd.prog 27 #[.string (txt m.bytes)] W fun e w' => e = .returned (.agg (hc (dg2 (txt m.bytes)))) ∧ Below W.heap.size W w') := fun W g => twice_any (txt m.bytes) (by rw [txt_sz]; omega) W g
    have h1 : Hid ((hc (dg2 (txt m.bytes))).size = 32) := by show _ = _; rw [hc_size, dg2_len]
    have h2 := hide (hc_one (dg2 (txt m.bytes)))
    clear hI hE hB h0 HF
    generalize hc (dg2 (txt m.bytes)) = D at *
    generalize txt m.bytes = T at *
    go_enter Tryd.func6, Tryd.ntmps6
    go_upto_region 1 with ((with_reducible refine at_list ?_); first | refine wpList_boxA rfl _ rfl C rfl ?_ | refine wpList_allocA A25 rfl rfl ?_)
    try rw [hsz]
    clear hsz
    generalize (w.alloc (.cells C 26)).alloc (.cells (hc zeros) 31) = W0 at *
    go_wp2_with (first | (go_at_call 5; refine (HE.out _ HL.out).mono ?_; rintro r W1 ⟨rfl, b1⟩; have D1 := hide b1; clear b1) | (go_at_call 27; refine (HT.out _ (KS.out.next D1.out)).mono ?_; rintro r W2 ⟨rfl, b1⟩; have D2 := hide (below_next D1.out b1); clear b1; have R4 := hide ((D2.out.block _ (lt_heap R2.out)).trans R2.out)) | ((with_reducible refine at_list ?_); first | refine wpList_loadS AT _ rfl w.heap.size rfl C CZ.out 26 R1.out (by rfl) ?_ | refine wpList_storeA A25 rfl _ _ rfl (w.heap.size + 1) D h1.out h2.out rfl rfl (hc zeros) (by rw [hc_size, zeros_len]) 31 R4.out ?_))
    exact bodyPost_ret (v := .tuple #[.agg D, .int .i64 0]) (resA2 A25 Tryd.results6 _ _ (w.heap.size + 1) 31 _ h1.out rfl (setRow_heap _ _ _ _ _ _ R4.out) _ rfl) rfl ⟨rfl, below_setRow (below_next B2.out D2.out) (by omega) _⟩
  · have hI : m.idT = zeros := by rw [Tm.idT, if_neg h0]
    have hE : m.encT = ⟨#[]⟩ := by rw [Tm.encT, if_neg h0]
    rw [hI]
    rw [hE] at HE
    clear hI hE HF
    generalize m.toldE = E at *
    go_enter Tryd.func6, Tryd.ntmps6
    go_upto_region 1 with ((with_reducible refine at_list ?_); first | refine wpList_boxA rfl _ rfl C rfl ?_ | refine wpList_allocA A25 rfl rfl ?_)
    try rw [hsz]
    clear hsz
    generalize (w.alloc (.cells C 26)).alloc (.cells (hc zeros) 31) = W0 at *
    go_wp2_with (first | (go_at_call 5; refine (HE.out _ HL.out).mono ?_; rintro r W1 ⟨rfl, b1⟩; have D1 := hide b1; clear b1; have R4 := hide ((D1.out.block _ (lt_heap R2.out)).trans R2.out)) | ((with_reducible refine at_list ?_); first | refine wpList_loadS AT _ rfl w.heap.size rfl C CZ.out 26 R1.out (by rfl) ?_ | refine wpList_buildA A25 rfl rfl ?_ | refine wpList_storeA A25 rfl _ _ rfl (w.heap.size + 1) (hc zeros) (by rw [hc_size, zeros_len]) (hc_one _) rfl rfl (hc zeros) (by rw [hc_size, zeros_len]) 31 R4.out ?_))
    exact bodyPost_ret (v := .tuple #[.agg (hc zeros), .int .i64 E]) (resA2 A25 Tryd.results6 _ _ (w.heap.size + 1) 31 _ (by rw [hc_size, zeros_len]) rfl (setRow_heap _ _ _ _ _ _ R4.out) _ rfl) rfl ⟨rfl, below_setRow (below_next B2.out D1.out) (by omega) _⟩
theorem rid_any (m : Tm) (ai : Option Addr) (ci : Nat) (ao : Option Addr) (co : Nat) (w : World) (hl : LR w m ai ci ao co) (hf : m.fit) : Calls Tryd.prog 12 #[.agg (m.cells ai ci ao co)] w fun e w' => e = .returned (.tuple #[.agg (hc m.idT), .bool (decide (m.toldE = 0))]) ∧ Below w.heap.size w w' := by
  have b1 := (Below.refl w.heap.size w).alloc (Nat.le_refl _) (.cells (m.cells ai ci ao co) 37)
  have hsz : (w.alloc (.cells (m.cells ai ci ao co) 37)).heap.size = w.heap.size + 1 := by simp
  have b2 := b1.alloc (by rw [hsz]; omega) (.cells (hc zeros) 30)
  have e1 := heap_alloc_last w (.cells (m.cells ai ci ao co) 37)
  have r1 := (Below.heap_alloc _ (.cells (hc zeros) 30) _ (lt_heap e1)).trans e1
  have r2 := heap_alloc_last (w.alloc (.cells (m.cells ai ci ao co) 37)) (.cells (hc zeros) 30)
  rw [hsz] at r2
  have HL := hide (hl.below b2)
  have HF := hide hf
  have R1 := hide r1
  have R2 := hide r2
  have B2 := hide b2
  have CZ : Hid ((m.cells ai ci ao co).size = 4) := rfl
  clear b1 b2 e1 r1 r2 hl hf
  have HE : Hid (∀ W, LR W m ai ci ao co → Calls Tryd.prog 11 #[.agg (m.cells ai ci ao co)] W fun e w' => e = .returned (.int .i64 m.toldE) ∧ Below W.heap.size W w') := fun W l => rtold_any m ai ci ao co W l HF.out
  have HY : Hid (∀ W, LR W m ai ci ao co → m.bytes.length ≤ 9223372036854775807 → Calls Tryd.prog 10 #[.agg (m.cells ai ci ao co)] W fun e w' => e = .returned (.string (txt m.bytes)) ∧ Below W.heap.size W w') := fun W l h => tbytesR_any m ai ci ao co W l HF.out h
  generalize m.cells ai ci ao co = C at *
  by_cases h0 : m.toldE = 0
  · have hI : m.idT = dg2 (txt m.bytes) := by rw [Tm.idT, if_pos h0]
    have hB := (m.told0 h0).2.2
    rw [hI, h0]
    rw [h0] at HE
    have HT : Hid (∀ W, Calls Tryd.prog 18 #[.string (txt m.bytes)] W fun e w' => e = .returned (.agg (hc (dg2 (txt m.bytes)))) ∧ Below W.heap.size W w') := fun W => rtwice_any (txt m.bytes) (by rw [txt_sz]; omega) W
    have h1 : Hid ((hc (dg2 (txt m.bytes))).size = 32) := by show _ = _; rw [hc_size, dg2_len]
    have h2 := hide (hc_one (dg2 (txt m.bytes)))
    have HZ := hide (fun W l => HY.out W l (by omega))
    clear hI hB h0 HF HY
    generalize hc (dg2 (txt m.bytes)) = D at *
    generalize txt m.bytes = T at *
    go_enter Tryd.func12, Tryd.ntmps12
    go_upto_region 1 with ((with_reducible refine at_list ?_); first | refine wpList_boxA rfl _ rfl C rfl ?_ | refine wpList_allocA A24 rfl rfl ?_)
    try rw [hsz]
    clear hsz
    generalize (w.alloc (.cells C 37)).alloc (.cells (hc zeros) 30) = W0 at *
    go_wp2_with (first | (go_at_call 11; refine (HE.out _ HL.out).mono ?_; rintro r W1 ⟨rfl, b1⟩; have D1 := hide b1; clear b1; have R3 := hide ((D1.out.block _ (lt_heap R1.out)).trans R1.out)) | (go_at_call 10; refine (HZ.out _ (HL.out.below D1.out)).mono ?_; rintro r W2 ⟨rfl, b1⟩; have D2 := hide (below_next D1.out b1); clear b1) | (go_at_call 18; refine (HT.out _).mono ?_; rintro r W3 ⟨rfl, b1⟩; have D3 := hide (below_next D2.out b1); clear b1; have R4 := hide ((D3.out.block _ (lt_heap R2.out)).trans R2.out)) | ((with_reducible refine at_list ?_); first | refine wpList_loadS ATr _ rfl w.heap.size rfl C CZ.out 37 R1.out (by rfl) ?_ | refine wpList_loadS ATr _ rfl w.heap.size rfl C CZ.out 37 R3.out (by rfl) ?_ | refine wpList_storeA A24 rfl _ _ rfl (w.heap.size + 1) D h1.out h2.out rfl rfl (hc zeros) (by rw [hc_size, zeros_len]) 30 R4.out ?_))
    exact bodyPost_ret (v := .tuple #[.agg D, .bool true]) (resA2 A24 Tryd.results12 _ _ (w.heap.size + 1) 30 _ h1.out rfl (setRow_heap _ _ _ _ _ _ R4.out) _ rfl) rfl ⟨rfl, below_setRow (below_next B2.out D3.out) (by omega) _⟩
  · have hI : m.idT = zeros := by rw [Tm.idT, if_neg h0]
    rw [hI, decide_eq_false h0]
    clear hI HF HY
    generalize m.toldE = E at *
    go_enter Tryd.func12, Tryd.ntmps12
    go_upto_region 1 with ((with_reducible refine at_list ?_); first | refine wpList_boxA rfl _ rfl C rfl ?_ | refine wpList_allocA A24 rfl rfl ?_)
    try rw [hsz]
    clear hsz
    generalize (w.alloc (.cells C 37)).alloc (.cells (hc zeros) 30) = W0 at *
    go_wp2_with (first | (go_at_call 11; refine (HE.out _ HL.out).mono ?_; rintro r W1 ⟨rfl, b1⟩; have D1 := hide b1; clear b1; have R4 := hide ((D1.out.block _ (lt_heap R2.out)).trans R2.out)) | ((with_reducible refine at_list ?_); first | refine wpList_loadS ATr _ rfl w.heap.size rfl C CZ.out 37 R1.out (by rfl) ?_ | refine wpList_buildA A24 rfl rfl ?_ | refine wpList_storeA A24 rfl _ _ rfl (w.heap.size + 1) (hc zeros) (by rw [hc_size, zeros_len]) (hc_one _) rfl rfl (hc zeros) (by rw [hc_size, zeros_len]) 30 R4.out ?_))
    exact bodyPost_ret (v := .tuple #[.agg (hc zeros), .bool false]) (resA2 A24 Tryd.results12 _ _ (w.heap.size + 1) 30 _ (by rw [hc_size, zeros_len]) rfl (setRow_heap _ _ _ _ _ _ R4.out) _ rfl) rfl ⟨rfl, below_setRow (below_next B2.out D1.out) (by omega) _⟩
end
end Go.Proofs.YtfldpejdpinppaaDoor
