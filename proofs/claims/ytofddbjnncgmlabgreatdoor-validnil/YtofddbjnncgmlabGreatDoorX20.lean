/- The contract of block.Mine, where a nonce is found. The document's lay and Count of layer 10: their contracts. The law's given: its contract. tx.Size, tx.mayBeTold: their contracts. -/
import Derived.Test.YtofddbjnncgmlabGreatDoorX19
import Derived.Test.YtofddbjnncgmlabGreatDoorX10
import Derived.Test.YtofddbjnncgmlabGreatDoorX11
namespace Go.Proofs.YtofddbjnncgmlabGreatDoor
open Go.RowKit
open Go.Deep
set_option linter.unusedVariables false
/-- The header with a nonce. -/
def Hd.at (h : Hd) (j : Nat) : Hd := { h with nonce := UInt32.ofNat j }
theorem Hd.at_bits (h : Hd) (j : Nat) : (h.at j).bits = h.bits := rfl
theorem ofNat_lt (j : Nat) (hj : j < 4294967296) : (UInt32.ofNat j).toNat = j := by
  rw [UInt32.toNat_ofNat', Nat.mod_eq_of_lt hj]
theorem Hd.at_id (h : Hd) (j : Nat) (hj : j < 4294967296) : (h.at j).id = digest (digest (h.front ++ lowL j 4)) := by
  show digest (digest (h.front ++ lowL (UInt32.ofNat j).toNat 4)) = _
  rw [ofNat_lt j hj]
theorem Hd.at_set (h : Hd) (i j : Nat) (hj : j < 4294967296) : (h.at i).cells.toArray.setIfInBounds 67 (.int .u32 (j : Int)) = (h.at j).cells.toArray := by
  have hl : (cellsL h.prev).length = 32 := by rw [cellsL_len, h.hp]
  have hm : (cellsL h.root).length = 32 := by rw [cellsL_len, h.hr]
  rw [List.setIfInBounds_toArray]
  congr 1
  show (Value.int .u32 (h.ver.toNat : Int) :: (cellsL h.prev ++ (cellsL h.root ++ [.int .u32 (h.time.toNat : Int), .int .u32 (h.bits.toNat : Int), .int .u32 ((UInt32.ofNat i).toNat : Int)]))).set 67 _ = Value.int .u32 (h.ver.toNat : Int) :: (cellsL h.prev ++ (cellsL h.root ++ [.int .u32 (h.time.toNat : Int), .int .u32 (h.bits.toNat : Int), .int .u32 ((UInt32.ofNat j).toNat : Int)]))
  rw [ofNat_lt j hj, List.set_cons_succ, List.set_append_right _ _ (by omega), hl, List.set_append_right _ _ (by omega), hm]
  rfl
theorem Hd.cut (h : Hd) : ((txt h.bytes).extract 0 76).data.toList = h.front := by
  have : ((txt h.bytes).extract 0 76).data.toList = (h.bytes.drop 0).take 76 := by
    simp [ByteArray.data_extract, txt, List.extract_eq_take_drop]
  rw [this, List.drop_zero, Hd.bytes, List.take_append_of_le_length (by rw [h.front_len]; omega), List.take_of_length_le (by rw [h.front_len]; omega)]
/-- What is known of the world while it is mined: the header's copy, the answer's place, the header that is tried, and the hasher. -/
structure Mj (w W : World) (h : Hd) (g2 g4 g9 bf i : Nat) : Prop where
  r2 : W.heap[g2]? = some (.cells h.cells.toArray 27 (0, 0))
  r4 : W.heap[g4]? = some (.cells zHd.cells.toArray 27 (0, 0))
  r9 : W.heap[g9]? = some (.cells (h.at i).cells.toArray 27 (0, 0))
  hat : Hat W bf h.front
  bel : Below w.heap.size w W
  k : Kg W
  n2 : g2 ≠ g9
  n4 : g4 ≠ g9
  nb : bf ≠ g9
  l4 : w.heap.size ≤ g4
  l9 : w.heap.size ≤ g9
theorem Mj.next {w W W' : World} {h : Hd} {g2 g4 g9 bf i : Nat} (m : Mj w W h g2 g4 g9 bf i) (b : Below W.heap.size W W') : Mj w W' h g2 g4 g9 bf i :=
  ⟨(b.block _ (lt_heap m.r2)).trans m.r2, (b.block _ (lt_heap m.r4)).trans m.r4, (b.block _ (lt_heap m.r9)).trans m.r9, m.hat.below b, below_next m.bel b, m.k.next b, m.n2, m.n4, m.nb, m.l4, m.l9⟩
theorem Mj.set {w W : World} {h : Hd} {g2 g4 g9 bf i : Nat} (m : Mj w W h g2 g4 g9 bf i) (j : Nat) (hj : j < 4294967296) (hw : 1 < w.heap.size) : Mj w (W.setCell ⟨g9, 67, none⟩ (.int .u32 (j : Int))) h g2 g4 g9 bf j := by
  have fr := Rfr.setCell g9 W 67 (.int .u32 (j : Int))
  refine ⟨(fr.block _ (lt_heap m.r2) m.n2).trans m.r2, (fr.block _ (lt_heap m.r4) m.n4).trans m.r4, ?_, m.hat.rfr m.nb fr, m.bel.trans (fr.to_below m.l9 m.bel.size), m.k.rfr (by have := m.l9; omega) fr, m.n2, m.n4, m.nb, m.l4, m.l9⟩
  rw [heap_setCell_same W g9 67 _ _ _ m.r9, h.at_set i j hj]
section
set_option maxRecDepth 10000
set_option maxHeartbeats 4000000
theorem mine_yes (h : Hd) (hn0 : h.nonce = 0) (k : Nat) (hk : k < 4294967296) (hno : ∀ j, j < k → (h.at j).meets = false) (hyes : (h.at k).meets = true) (w : World) (hK : Kg w) : Calls Tryz.prog 102 #[.agg h.cells.toArray, .int .u64 4294967296] w fun e w' => e = .returned (.tuple #[.agg (h.at k).cells.toArray, .bool true]) ∧ Below w.heap.size w w' := by
  have hok : okB h.bits.toNat = true := by
    have := hyes
    unfold Hd.meets mt at this
    rw [Bool.and_eq_true] at this
    exact this.1
  have s1 : (w.alloc (.cells h.cells.toArray 27)).heap.size = w.heap.size + 1 := by simp
  have r1 := (Below.heap_alloc _ (.cells zHd.cells.toArray 27) _ (lt_heap (heap_alloc_last w (.cells h.cells.toArray 27)))).trans (heap_alloc_last w (.cells h.cells.toArray 27))
  have r2 := heap_alloc_last (w.alloc (.cells h.cells.toArray 27)) (.cells zHd.cells.toArray 27)
  have b1 := ((Below.refl w.heap.size w).alloc (Nat.le_refl _) (.cells h.cells.toArray 27)).alloc (by rw [s1]; omega) (.cells zHd.cells.toArray 27)
  rw [s1] at r2
  have B1 := hide b1
  have R1 := hide r1
  have R2 := hide r2
  have KW := hide hK.lt
  have KS := hide (hK.next b1)
  have CZ := hide h.size
  have H0 : Hid (h.at 0 = h) := by
    show h.at 0 = h
    unfold Hd.at
    rw [show UInt32.ofNat 0 = (0 : UInt32) from rfl, ← hn0]
  have HX := hide (fun W => expand_yes h.bits.toNat h.bits.toNat_lt hok W)
  have HH := hide (fun W => head_any h W)
  have HN := hide (fun W => new_any W)
  have HCUT := hide h.cut
  have FL := hide h.front_len
  have TZ : (txt h.bytes).size = 80 := by rw [txt_sz, h.bytes_len]
  have HNO := hide hno
  have HYES := hide hyes
  have HI : Hid (∀ (j : Nat) (hj : j < 4294967296) (W : World) (bf : Nat), Kg W → Hat W bf h.front → Calls Tryz.prog 134 #[.pointer (some ⟨bf, 0, none⟩), .int .u32 (j : Int)] W fun e w' => e = .returned (.agg (hc (h.at j).id)) ∧ Below W.heap.size W w') := fun j hj W bf k hh => by
    rw [h.at_id j hj]
    exact idBehind_any bf h.front j hj W k (by rw [h.front_len]; omega) hh
  have HM : Hid (∀ (j : Nat) (W : World), Calls Tryz.prog 133 #[.agg (hc (h.at j).id), .int .u32 (h.bits.toNat : Int)] W fun e w' => e = .returned (.bool (h.at j).meets) ∧ Below W.heap.size W w') := fun j W => meets_any (h.at j).id (h.at j).id_len h.bits.toNat h.bits.toNat_lt W
  have RC : Hid (∀ (W : World) (g : Nat), W.heap[g]? = some (.cells h.cells.toArray 27 (0, 0)) → W.cell? ⟨g, 66, none⟩ = some (.int .u32 (h.bits.toNat : Int)) ∧ W.cell? ⟨g, 67, none⟩ = some (.int .u32 0)) := fun W g e => by
    have q1 := h.bits0 (rowAt _ e)
    have q2 := h.nonce0 (rowAt _ e)
    rw [Nat.zero_add] at q1 q2
    rw [hn0] at q2
    exact ⟨q1, q2⟩
  have c1 := (RC.out _ _ R1.out).1
  clear b1 r1 r2 hK hok hn0 hno hyes
  generalize tgt h.bits.toNat = TG at *
  generalize hB : h.bits.toNat = NB at *
  have HA := hide (fun j => (h.at j).size)
  have HAl := hide (fun j => (h.at j).all)
  go_enter Tryz.func102, Tryz.ntmps102
  go_upto_region 1 with ((with_reducible refine at_list ?_); first | refine wpList_boxA rfl _ rfl h.cells.toArray rfl ?_ | refine wpList_allocA AHd rfl rfl ?_)
  try rw [s1]
  clear s1
  generalize (w.alloc (.cells h.cells.toArray 27)).alloc (.cells zHd.cells.toArray 27) = W0 at *
  go_upto_region 2 with (first | (go_at_call 130; refine (HX.out _).mono ?_; rintro r W1 ⟨rfl, be⟩; have D1 := hide be; clear be) | ((with_reducible refine at_list ?_); first | refine wpList_allocA AW rfl rfl ?_ | refine wpList_store_newA AW rfl _ _ rfl _ rfl (wn TG) (wn_size _) (wn_one _) rfl rfl ?_))
  have D2 := hide (below_next D1.out ((Below.refl W1.heap.size W1).alloc (Nat.le_refl _) (.cells (wn TG) 232)))
  clear c1 D1
  generalize W1.alloc (.cells (wn TG) 232) = W2 at *
  generalize W1.heap.size = g6 at *
  go_upto_region 4 with fail
  go_upto_region 5 with (go_at_call 131; refine (HN.out _).mono ?_; rintro r W3 ⟨bf, rfl, h3, be, hb3⟩; have H3 := hide h3; have G3 := hide (Nat.le_trans D2.out.size hb3); have D3 := hide (below_next D2.out be); clear h3 be hb3)
  have R3 := hide ((D3.out.block _ (lt_heap R1.out)).trans R1.out)
  go_upto_region 6 with (first | (go_at_call 62; refine (HH.out _).mono ?_; rintro r W4 ⟨rfl, be⟩; have D4 := hide (below_next D3.out be); have H4 := hide (H3.out.below be); clear be) | (go_at_call 132; refine (write_any bf [] ((txt h.bytes).extract 0 76) _ (KS.out.next D4.out) (by have := G3.out; have := KS.out.lt; omega) (by simp; omega) H4.out).mono ?_; rintro r W5 ⟨rfl, h5, f5⟩; have H5 := hide h5; have D5 := hide (D4.out.trans (f5.to_below G3.out D4.out.size)); clear h5 f5) | ((with_reducible refine at_list ?_); refine wpList_loadS AHd _ rfl w.heap.size rfl h.cells.toArray CZ.out 27 R3.out (by rfl) ?_))
  have R5 := hide ((D5.out.block _ (lt_heap R1.out)).trans R1.out)
  have R5b := hide ((D5.out.block _ (lt_heap R2.out)).trans R2.out)
  rw [List.nil_append, HCUT.out] at H5
  clear H3 H4 R3 D3 D4 D2 HX HH HN HCUT FL TZ
  go_upto_region 7 with ((with_reducible refine at_list ?_); first | refine wpList_loadS AHd _ rfl w.heap.size rfl h.cells.toArray CZ.out 27 R5.out (by rfl) ?_ | refine wpList_allocA AHd rfl rfl ?_ | refine wpList_store_newA AHd rfl _ _ rfl _ rfl h.cells.toArray CZ.out (h.all) rfl rfl ?_)
  have J0 : Hid (Mj w (W5.alloc (.cells h.cells.toArray 27)) h w.heap.size (w.heap.size + 1) W5.heap.size bf 0) := by
    have bb := (Below.refl W5.heap.size W5).alloc (Nat.le_refl _) (.cells h.cells.toArray 27)
    have l1 := lt_heap R5.out
    have l2 := lt_heap R5b.out
    have l3 := H5.out.lt
    refine ⟨(bb.block _ l1).trans R5.out, (bb.block _ l2).trans R5b.out, ?_, H5.out.below bb, below_next B1.out (below_next D5.out bb), KS.out.next (below_next D5.out bb), by omega, by omega, by omega, by omega, by omega⟩
    rw [H0.out]
    exact heap_alloc_last _ _
  clear R5 R5b H5 D5
  generalize W5.alloc (.cells h.cells.toArray 27) = W6 at *
  generalize W5.heap.size = g9 at *
  have c2 := (RC.out _ _ J0.out.r2).2
  go_upto_region 9 with fail
  clear c2
  go_loopw [11] (fun i wr => ∃ j : Nat, j ≤ k ∧ i = .int .u64 (j : Int) ∧ ∃ p : Nat, Hid (Mj w wr h w.heap.size (w.heap.size + 1) g9 bf p)) (fun i _ => (k + 1 - intOf i).toNat)
  case atStart => exact ⟨0, Nat.zero_le _, rfl, 0, J0⟩
  case round =>
    clear J0
    obtain ⟨j, hj, rfl, p, J⟩ := hrel
    have hj2 := hide (show j < 4294967296 by omega)
    have h1 : decide ((j : Int) < 4294967296) = true := decide_eq_true (by omega)
    have h1' : (j : Int) < 4294967296 := by omega
    have e1 : IntKind.u32.wrap (j : Int) = (j : Int) := by rw [IntKind.wrap_u32]; omega
    have e2 : IntKind.u64.wrap ((j : Int) + 1) = (j : Int) + 1 := wrapu _ (by omega) (by omega)
    have MS := hide (show ((k : Int) + 1 - ((j : Int) + 1)).toNat < ((k : Int) + 1 - (j : Int)).toNat by omega)
    have JK := hide hj
    clear hj hk
    have J1 := hide (J.out.set j hj2.out KW.out)
    have c4 : wr.cell? ⟨g9, 67, none⟩ = some (.int .u32 ((h.at p).nonce.toNat : Int)) := by
      have q2 := (h.at p).nonce0 (rowAt _ J.out.r9)
      rwa [Nat.zero_add] at q2
    have f4 := frozen_of_row wr g9 67 _ _ J.out.r9
    clear J
    go_upto_region 12 with fail
    clear c4 f4 h1 h1' e1
    generalize wr.setCell ⟨g9, 67, none⟩ (.int .u32 (j : Int)) = W7 at *
    have CN : Hid (∀ W, Below W7.heap.size W7 W → W.cell? ⟨g9, 67, none⟩ = some (.int .u32 (j : Int)) ∧ W.cell? ⟨w.heap.size, 66, none⟩ = some (.int .u32 (NB : Int))) := fun W b => by
      have q := J1.out.next b
      have q2 := (h.at j).nonce0 (rowAt _ q.r9)
      rw [Nat.zero_add, show (h.at j).nonce = UInt32.ofNat j from rfl, ofNat_lt j hj2.out] at q2
      exact ⟨q2, (RC.out _ _ q.r2).1⟩
    have DV1 := hide ((Below.refl W7.heap.size W7).drew)
    have HIj := hide (fun W => HI.out j hj2.out W bf)
    have HMj := hide (fun W => HM.out j W)
    have NN := hide (fun (h : j < k) => HNO.out j h)
    generalize hV : (h.at j).meets = V at *
    generalize (h.at j).id = ID at *
    refine wp_region_held_drew (S := fun W => Below W7.heap.size W7 W) (by kernel_rfl) DV1.out (fun hH => ?_)
    generalize hWd : W7.drew = V1 at *
    clear hWd
    refine wpAnyH_take (i := 0) (v := (.pointer (some ⟨bf, 0, none⟩))) rfl (by kernel_rfl) (by kernel_rfl) (by kernel_rfl) (fun _ _ _ h => h) (yl_move (by rfl) _ (by rfl) _ (by rfl)) hH ?_
    change wpAnyH _ _ _ _ _ _ _ (Act.put _ (some 46) _) _
    simp only [Act.put, List.setIfInBounds_toArray, List.set_cons_zero, List.set_cons_succ]
    refine wpAnyH_take (i := 1) (v := (.pointer (some ⟨g9, 67, none⟩))) rfl (by kernel_rfl) (by kernel_rfl) (by kernel_rfl) (fun _ _ _ h => h) (.inl ⟨by rfl, fun W _ => by go_simp⟩) hH ?_
    change wpAnyH _ _ _ _ _ _ _ (Act.put _ (some 47) _) _
    simp only [Act.put, List.setIfInBounds_toArray, List.set_cons_zero, List.set_cons_succ]
    refine wpAnyH_take (i := 2) (v := (.int .u32 (j : Int))) rfl (by kernel_rfl) (by kernel_rfl) (by kernel_rfl) (fun _ _ _ h => h) (.inl ⟨by rfl, fun W hS => by have c4 := (CN.out W hS).1; go_simp⟩) hH ?_
    change wpAnyH _ _ _ _ _ _ _ (Act.put _ (some 48) _) _
    simp only [Act.put, List.setIfInBounds_toArray, List.set_cons_zero, List.set_cons_succ]
    refine wpAnyH_take (i := 4) (v := (.pointer (some ⟨w.heap.size, 66, none⟩))) rfl (by kernel_rfl) (by kernel_rfl) (by kernel_rfl) (fun _ _ _ h => h) (.inl ⟨by rfl, fun W _ => by go_simp⟩) hH ?_
    change wpAnyH _ _ _ _ _ _ _ (Act.put _ (some 50) _) _
    simp only [Act.put, List.setIfInBounds_toArray, List.set_cons_zero, List.set_cons_succ]
    refine wpAnyH_take (i := 5) (v := (.int .u32 (NB : Int))) rfl (by kernel_rfl) (by kernel_rfl) (by kernel_rfl) (fun _ _ _ h => h) (.inl ⟨by rfl, fun W hS => by have c4 := (CN.out W hS).2; go_simp⟩) hH ?_
    change wpAnyH _ _ _ _ _ _ _ (Act.put _ (some 51) _) _
    simp only [Act.put, List.setIfInBounds_toArray, List.set_cons_zero, List.set_cons_succ]
    refine wpAnyH_ready (rs := [3]) (by kernel_rfl) (by simp) (AllReadyH.cons rfl (fun K1 hK1 => ?_) AllReadyH.nil)
    go_simp
    refine (HIj.out V1 (J1.out.next DV1.out).k (J1.out.next DV1.out).hat).mono ?_
    rintro r V2 ⟨rfl, be⟩
    have DV2 := hide (below_next DV1.out be)
    clear be
    refine hK1.out _ _ DV2.out (fun hH => ?_)
    clear hK1
    refine wpAnyH_ready (rs := [6]) (by kernel_rfl) (by simp) (AllReadyH.cons rfl (fun K1 hK1 => ?_) AllReadyH.nil)
    go_simp
    refine (HMj.out V2).mono ?_
    rintro r V3 ⟨rfl, be⟩
    have DV3 := hide (below_next DV2.out be)
    clear be
    refine hK1.out _ _ DV3.out (fun hH => ?_)
    clear hK1
    refine wpAnyH_done (by kernel_rfl) ?_ _
    clear hH
    have J3 := hide (J1.out.next DV3.out)
    have HVV := hide hV
    clear hV CN HIj HMj DV1 DV2 DV3 J1
    by_cases hjk : j < k
    · have e3 := NN.out hjk
      subst e3
      have JK2 := hide (show j + 1 ≤ k by omega)
      clear hjk
      go_wp2
      exact ⟨⟨j + 1, JK2.out, by go_num, j, J3⟩, by simpa [intOf] using MS.out⟩
    · have ejk : j = k := by have := JK.out; omega
      subst ejk
      have e3 : V = true := HVV.out.symm.trans HYES.out
      subst e3
      have R9 := hide J3.out.r9
      have R4 := hide J3.out.r4
      have HS9 := hide (HA.out j)
      have HL9 := hide (HAl.out j)
      generalize hCJ : (h.at j).cells.toArray = CJ at *
      have HCJ := hide hCJ
      clear hCJ
      go_wp2_with ((with_reducible refine at_list ?_); first | refine wpList_loadS AHd _ rfl g9 rfl CJ HS9.out 27 R9.out (by rfl) ?_ | refine wpList_storeA AHd rfl _ _ rfl (w.heap.size + 1) CJ HS9.out HL9.out rfl rfl zHd.cells.toArray zHd.size 27 R4.out ?_)
      exact bodyPost_ret (v := .tuple #[.agg CJ, .bool true]) (resA2K AHd Tryz.results102 _ _ (w.heap.size + 1) 27 _ HS9.out rfl (setRow_heap _ _ _ _ _ _ R4.out) _ rfl) rfl ⟨by rw [HCJ.out], below_setRow J3.out.bel (by omega) _⟩
end
end Go.Proofs.YtofddbjnncgmlabGreatDoor
namespace Go.Proofs.YtofddbjnncgmlabGreatDoor
open Go.RowKit
open Go.Deep
set_option linter.unusedVariables false
theorem bs0U (w : World) : (Instr.buildSlice 155 0 #[]).run Tryz.prog w = .ok (.slice (some ⟨w.heap.size, 0, none⟩) 0 0) (w.alloc (.cells #[] 5)) := by kernel_rfl
section
set_option maxRecDepth 10000
set_option maxHeartbeats 4000000
theorem lay_any (n k : Nat) (K : Int) (hK : K = k) (hn : U64 n) (w : World) (hk : k ≤ 8) : Calls Tryz.prog 106 #[.int .u64 n, .int .i64 K] w fun e w' => e = .returned (.string (txt (lowL n k))) ∧ Below w.heap.size w w' := by
  subst hK
  have h5 := bs0U w
  have O0 : Own (w.alloc (.cells #[] 5)) (.slice (some ⟨w.heap.size, 0, none⟩) 0 0) [] := World.ownsRow_made w #[] 0 (Nat.zero_le _) (Nat.zero_le _) rfl
  have B0 : Below w.heap.size w (w.alloc (.cells #[] 5)) := (Below.refl _ _).alloc (Nat.le_refl _) _
  have J0 := hide (And.intro O0 B0)
  clear O0 B0
  go_enter Tryz.func106, Tryz.ntmps106
  go_upto_region 3 with fail
  clear h5
  generalize hW : w.alloc (.cells #[] 5) = W0 at *
  go_loopw [0, 5, 6] (fun m v i wr => ∃ (j x : Nat) (l : List UInt8), j ≤ k ∧ i = .int .i64 (j : Int) ∧ m = .int .u64 (x : Nat) ∧ U64 x ∧ Own wr v l ∧ Hid (l ++ lowL x (k - j) = lowL n k) ∧ Hid (Below w.heap.size w wr) ∧ Hid (∀ g, v.ownBlock = some g → w.heap.size ≤ g)) (fun _ _ i _ => (k - intOf i).toNat)
  case atStart => exact ⟨0, n, [], Nat.zero_le _, rfl, rfl, hn, J0.out.1, by simp [Hid], J0.out.2, fun g hg => by cases hg; exact Nat.le_refl _⟩
  case round =>
    clear J0
    obtain ⟨j, x, l, hj, rfl, rfl, hx, ho, hl, hg, hfar⟩ := hrel
    obtain ⟨ao, nn, cc, rfl, hnn⟩ := ho.form
    by_cases hlt : j < k
    · have hll : l.length ≤ 8 := by
        have := congrArg List.length hl.out
        simp only [List.length_append, lowL_len] at this
        omega
      have HO := hide ho
      clear ho
      go_wp2_with (at_builtin; refine wpList_app rfl _ _ rfl (.slice ao nn cc) l rfl (HO.out.alloc _) ⟨_, 0, none⟩ 1 1 [UInt8.ofNat (x % 256)] rfl rfl (one_new _ _ _ (byte_of x)) (by omega) ?_; intro v' W3 ho3 on3)
      refine ⟨⟨j + 1, x / 256, l ++ [UInt8.ofNat (x % 256)], by omega, by go_num, ?_, hx.div, ho3, ?_, ?_, ?_⟩, by simp [intOf]; omega⟩
      · have := hx.lt
        rw [wrapu _ (by omega) (by omega)]
        rfl
      · have := hl.out
        rw [show k - j = (k - (j + 1)) + 1 by omega] at this
        simpa [Hid, lowL] using this
      · have g := on3.grown
        have b1 := hg.out.size
        have ba : Below wr.heap.size wr (wr.alloc (.cells #[.int .u8 ((x : Int) % 256)] 5)) := (Below.refl _ _).alloc (Nat.le_refl _) _
        have b2 := ba.size
        refine ⟨(g.os.trans ba.os).trans hg.out.os, (g.tape.trans ba.tape).trans hg.out.tape, (g.output.trans ba.output).trans hg.out.output, by have := g.size; omega, fun q hq => ((g.block q (by omega) (fun e => by have := hfar.out q e.symm; omega)).trans (ba.block q (by omega))).trans (hg.out.block q hq)⟩
      · intro q hq
        have b1 := hg.out.size
        rcases on3.lies with r | ⟨c, r, hc⟩
        · exact hfar.out q (by rw [← r]; exact hq)
        · rw [r] at hq
          cases hq
          have : wr.heap.size ≤ (wr.alloc (.cells #[.int .u8 ((x : Int) % 256)] 5)).heap.size := by simp
          omega
    · have he : l = lowL n k := by
        have := hl.out
        rw [show k - j = 0 by omega] at this
        simpa [lowL] using this
      subst he
      have hcv := conv_own ho
      go_wp2
      go_ret
      exact ⟨rfl, hg.out⟩
set_option maxHeartbeats 400000 in
theorem countR_any (n : Nat) (hn : U64 n) (w : World) : Calls Tryz.prog 107 #[.int .u64 n] w fun e w' => e = .returned (.string (txt (countL n))) ∧ Below w.heap.size w w' := by
  by_cases h1 : n < 253
  · have hL : countL n = lowL n 1 := by unfold countL; rw [if_pos h1]
    rw [hL]
    clear hL
    go_enter Tryz.func107, Tryz.ntmps107
    go_wp2_with (go_at_call 106; refine (lay_any n 1 1 rfl hn _ (by omega)).mono ?_; rintro e w' ⟨rfl, hbel⟩)
    go_ret
    exact ⟨rfl, hbel⟩
  by_cases h2 : n ≤ 65535
  · have hL : countL n = 253 :: lowL n 2 := by unfold countL; rw [if_neg h1, if_pos h2]
    rw [hL]
    clear hL
    have q1 : ¬ (n : Int) < 253 := by omega
    have k2 : (n : Int) < 65536 := by omega
    have hll : (txt (lowL n 2)).size = 2 := by rw [txt_sz, lowL_len]
    have HE : Hid ((⟨#[253]⟩ : ByteArray) ++ txt (lowL n 2) = txt (253 :: lowL n 2)) := by show _ = _; apply ByteArray.ext; simp [txt]
    have HL := hide (fun W => lay_any n 2 2 rfl hn W (by omega))
    generalize txt (lowL n 2) = tl at *
    generalize txt (253 :: lowL n 2) = tr at *
    clear h1 h2 hn
    generalize (n : Int) = N at *
    go_enter Tryz.func107, Tryz.ntmps107
    go_wp2_with (go_at_call 106; refine (HL.out _).mono ?_; rintro e w' ⟨rfl, hbel⟩)
    go_ret
    exact ⟨congrArg (fun b => Ending.returned (Value.string b)) HE.out, hbel⟩
  by_cases h3 : n ≤ 4294967295
  · have hL : countL n = 254 :: lowL n 4 := by unfold countL; rw [if_neg h1, if_neg h2, if_pos h3]
    rw [hL]
    clear hL
    have q1 : ¬ (n : Int) < 253 := by omega
    have k2 : ¬ (n : Int) < 65536 := by omega
    have k3 : (n : Int) < 4294967296 := by omega
    have hll : (txt (lowL n 4)).size = 4 := by rw [txt_sz, lowL_len]
    have HE : Hid ((⟨#[254]⟩ : ByteArray) ++ txt (lowL n 4) = txt (254 :: lowL n 4)) := by show _ = _; apply ByteArray.ext; simp [txt]
    have HL := hide (fun W => lay_any n 4 4 rfl hn W (by omega))
    generalize txt (lowL n 4) = tl at *
    generalize txt (254 :: lowL n 4) = tr at *
    clear h1 h2 h3 hn
    generalize (n : Int) = N at *
    go_enter Tryz.func107, Tryz.ntmps107
    go_wp2_with (go_at_call 106; refine (HL.out _).mono ?_; rintro e w' ⟨rfl, hbel⟩)
    go_ret
    exact ⟨congrArg (fun b => Ending.returned (Value.string b)) HE.out, hbel⟩
  · have hL : countL n = 255 :: lowL n 8 := by unfold countL; rw [if_neg h1, if_neg h2, if_neg h3]
    rw [hL]
    clear hL
    have q1 : ¬ (n : Int) < 253 := by omega
    have k2 : ¬ (n : Int) < 65536 := by omega
    have k3 : ¬ (n : Int) < 4294967296 := by omega
    have hll : (txt (lowL n 8)).size = 8 := by rw [txt_sz, lowL_len]
    have HE : Hid ((⟨#[255]⟩ : ByteArray) ++ txt (lowL n 8) = txt (255 :: lowL n 8)) := by show _ = _; apply ByteArray.ext; simp [txt]
    have HL := hide (fun W => lay_any n 8 8 rfl hn W (by omega))
    generalize txt (lowL n 8) = tl at *
    generalize txt (255 :: lowL n 8) = tr at *
    clear h1 h2 h3 hn
    generalize (n : Int) = N at *
    go_enter Tryz.func107, Tryz.ntmps107
    go_wp2_with (go_at_call 106; refine (HL.out _).mono ?_; rintro e w' ⟨rfl, hbel⟩)
    go_ret
    exact ⟨congrArg (fun b => Ending.returned (Value.string b)) HE.out, hbel⟩
end
end Go.Proofs.YtofddbjnncgmlabGreatDoor
namespace Go.Proofs.YtofddbjnncgmlabGreatDoor
open Go.RowKit
open Go.Deep
set_option linter.unusedVariables false
section
set_option maxRecDepth 10000
set_option maxHeartbeats 4000000
end
end Go.Proofs.YtofddbjnncgmlabGreatDoor
namespace Go.Proofs.YtofddbjnncgmlabGreatDoor
open Go.RowKit
open Go.Deep
set_option linter.unusedVariables false
section
set_option maxRecDepth 10000
set_option maxHeartbeats 4000000
theorem size_any (m : Tm) (ai : Option Addr) (ci : Nat) (ao : Option Addr) (co : Nat) (w : World) (hl : LT w m ai ci ao co) (hf : m.fit) (hN : m.bytes.length ≤ 9223372036854775807) : Calls Tryz.prog 70 #[.agg (m.cells ai ci ao co)] w fun e w' => e = .returned (.int .i64 m.bytes.length) ∧ Below w.heap.size w w' := by
  have b1 := (Below.refl w.heap.size w).alloc (Nat.le_refl _) (.cells (m.cells ai ci ao co) 90)
  have r1 := heap_alloc_last w (.cells (m.cells ai ci ao co) 90)
  have c1 : (w.alloc (.cells (m.cells ai ci ao co) 90)).cell? ⟨w.heap.size, 1, none⟩ = some (.slice ai m.ins.length ci) := by rw [cell_of_row _ _ _ _ _ _ r1]; rfl
  have c2 : (w.alloc (.cells (m.cells ai ci ao co) 90)).cell? ⟨w.heap.size, 2, none⟩ = some (.slice ao m.outs.length co) := by rw [cell_of_row _ _ _ _ _ _ r1]; rfl
  have hb := m.bytes_len
  have fi := hf.i
  have fo := hf.o
  have HC : Hid (∀ W, Calls Tryz.prog 112 #[.int .i64 (m.ins.length : Int)] W fun e w' => e = .returned (.int .i64 (clong m.ins.length)) ∧ w' = W) := fun W => tcountLong_any _ (by omega) W
  have HD : Hid (∀ W, Calls Tryz.prog 112 #[.int .i64 (m.outs.length : Int)] W fun e w' => e = .returned (.int .i64 (clong m.outs.length)) ∧ w' = W) := fun W => tcountLong_any _ (by omega) W
  have p1 := clong_pos m.ins.length
  have p2 := clong_pos m.outs.length
  have q1 := clong_le m.ins.length
  have q2 := clong_le m.outs.length
  have e1 : IntKind.i64.wrap (8 + clong m.ins.length) = 8 + clong m.ins.length := wrapI _ (by omega) (by omega)
  have e2 : IntKind.i64.wrap (8 + clong m.ins.length + clong m.outs.length) = 8 + clong m.ins.length + clong m.outs.length := wrapI _ (by omega) (by omega)
  have HF := hide hf
  have HN := hide hN
  have HB := hide hb
  have PQ := hide (And.intro (And.intro p1 q1) (And.intro p2 q2))
  have HL := hide (hl.below b1)
  have B1 := hide b1
  clear p1 p2 q1 q2 hb hf hN fi fo hl b1 r1
  unfold Tm.cells at *
  go_enter Tryz.func70, Tryz.ntmps70
  go_upto_region 1 with fail
  generalize w.alloc (.cells #[.int .u32 (m.ver.toNat : Int), .slice ai m.ins.length ci, .slice ao m.outs.length co, .int .u32 (m.time.toNat : Int)] 90) = W0 at *
  go_quiet (first | (go_at_call 112; first | exact Calls.quiet_of_same (HC.out _) | exact Calls.quiet_of_same (HD.out _)))
  have c3 : Hid ((W0.drewN nq).cell? ⟨w.heap.size, 2, none⟩ = some (.slice ao m.outs.length co)) := c2
  have c4 : (W0.drewN nq).cell? ⟨w.heap.size, 1, none⟩ = some (.slice ai m.ins.length ci) := c1
  have L1 : Hid (LT (W0.drewN nq) m ai ci ao co) := HL.out.below (below_drewN (Below.refl _ _) nq)
  have B2 : Hid (Below w.heap.size w (W0.drewN nq)) := below_drewN B1.out nq
  generalize W0.drewN nq = W1 at *
  have HT : Hid (∀ x : ByteArray, clong x.size + x.size ≤ 9223372036854775807 → ∀ W, Calls Tryz.prog 113 #[.string x] W fun e w' => e = .returned (.int .i64 (clong x.size + x.size)) ∧ w' = W) := fun x hx W => textLong_any x hx W
  clear c1 c2 HL B1 e1 e2 HC HD
  obtain ⟨sz, hsz⟩ : ∃ s : Int, s = 8 + clong m.ins.length + clong m.outs.length := ⟨_, rfl⟩
  rw [← hsz]
  rw [← hsz] at HB
  have SZ : Hid (0 ≤ sz) := by have := PQ.out; show 0 ≤ sz; omega
  clear hsz PQ
  go_upto_region 3 with fail
  clear c4
  go_loopw [3, 21] (fun s i wr => ∃ k : Nat, k ≤ m.ins.length ∧ i = .int .i64 (k : Int) ∧ s = .int .i64 (sz + ((insL (m.ins.take k)).length : Int)) ∧ Hid (Below W1.heap.size W1 wr)) (fun _ i _ => (m.ins.length - intOf i).toNat)
  case atStart => exact ⟨0, Nat.zero_le _, rfl, by simp [insL], Below.refl _ _⟩
  case round =>
    obtain ⟨k, hk, rfl, rfl, J⟩ := hrel
    by_cases hlt : k < m.ins.length
    · have h1 : (k : Int) < (m.ins.length : Int) := by omega
      have h2 : (0 : Int) ≤ (k : Int) := by omega
      have h5 := HF.out.i
      have e1 : IntKind.i64.wrap ((k : Int) + 1) = k + 1 := wrapI _ (by omega) (by omega)
      have KK := hide (And.intro (show k + 1 ≤ m.ins.length by omega) (show ((m.ins.length : Int) - ((k : Int) + 1)).toNat < ((m.ins.length : Int) - (k : Int)).toNat by omega))
      obtain ⟨ga, oa, rfl⟩ := L1.out.i.base (by omega)
      have RG : Hid (wr.rangeAt ga (oa + k * 35) m.ins[k].cells) := (L1.out.below J.out).i.range k hlt
      have hx := m.ins[k].bytes_len
      have ht := congrArg List.length (insL_take m.ins k hlt)
      rw [List.length_append] at ht
      have hle := insL_le m.ins (k + 1)
      have hn := HN.out
      have hbb := HB.out
      have hs0 := SZ.out
      have g1 := clong_pos m.ins[k].key.size
      have HT2 := hide (HT.out m.ins[k].key (by omega))
      have e3 : IntKind.i64.wrap (36 + (clong m.ins[k].key.size + m.ins[k].key.size)) = 36 + (clong m.ins[k].key.size + m.ins[k].key.size) := wrapI _ (by omega) (by omega)
      have e4 : IntKind.i64.wrap (36 + (clong m.ins[k].key.size + m.ins[k].key.size) + 4) = 36 + (clong m.ins[k].key.size + m.ins[k].key.size) + 4 := wrapI _ (by omega) (by omega)
      have e5 : IntKind.i64.wrap (sz + ((insL (m.ins.take k)).length : Int) + (36 + (clong m.ins[k].key.size + m.ins[k].key.size) + 4)) = sz + ((insL (m.ins.take (k + 1))).length : Int) := by rw [wrapI _ (by omega) (by omega)]; omega
      clear h5 hx ht hle hn hbb hs0 g1
      generalize m.ins[k] = x at *
      clear hk hlt
      go_upto_region 5 with ((with_reducible refine at_list ?_); first | refine wpLoadI _ rfl ga (oa + k * 35) rfl x RG.out (by rfl) ?_ | refine wpList_allocA AI rfl rfl ?_ | refine wpList_store_newA AI rfl _ _ rfl _ rfl x.cells.toArray x.size x.all rfl rfl ?_)
      have c5 : (wr.alloc (.cells x.cells.toArray 96)).cell? ⟨wr.heap.size, 33, none⟩ = some (.string x.key) := by rw [cell_of_row _ _ _ _ _ _ (heap_alloc_last wr _)]; exact x.at33
      have J2 : Hid (Below W1.heap.size W1 (wr.alloc (.cells x.cells.toArray 96))) := J.out.alloc J.out.size _
      generalize wr.alloc (.cells x.cells.toArray 96) = wr2 at *
      clear J RG
      go_wp2_with (go_at_call 113; with_reducible refine (HT2.out _).mono ?_; rintro e W3 ⟨rfl, rfl⟩)
      exact ⟨⟨k + 1, KK.out.1, by go_num, rfl, J2.out⟩, by simpa [intOf] using KK.out.2⟩
    · have h1 : ¬ (k : Int) < (m.ins.length : Int) := by omega
      rw [List.take_of_length_le (by omega)]
      have L2 := hide ((L1.out.below J.out).o)
      have c4 : wr.cell? ⟨w.heap.size, 2, none⟩ = some (.slice ao m.outs.length co) := by rw [← c3.out]; exact J.out.cell (p := ⟨w.heap.size, 2, none⟩) (block_lt_of_cell c3.out)
      have B3 := hide (B2.out.trans (J.out.mono B2.out.size))
      clear hk hlt J L1 c3 B2
      go_upto_region 8 with fail
      clear c4 h1
      obtain ⟨sy, hsy⟩ : ∃ s : Int, s = sz + ((insL m.ins).length : Int) := ⟨_, rfl⟩
      rw [← hsy]
      rw [← hsy] at HB
      have SY : Hid (0 ≤ sy) := by have := SZ.out; show 0 ≤ sy; omega
      clear hsy SZ
      obtain ⟨W2, hW2⟩ : ∃ x, x = wr := ⟨_, rfl⟩
      subst hW2
      go_loopw [3, 36] (fun s i wr => ∃ k : Nat, k ≤ m.outs.length ∧ i = .int .i64 (k : Int) ∧ s = .int .i64 (sy + ((outsL (m.outs.take k)).length : Int)) ∧ Hid (Below W2.heap.size W2 wr)) (fun _ i _ => (m.outs.length - intOf i).toNat)
      case atStart => exact ⟨0, Nat.zero_le _, rfl, by simp [outsL], Below.refl _ _⟩
      case round =>
        obtain ⟨k, hk, rfl, rfl, J⟩ := hrel
        by_cases hlt : k < m.outs.length
        · have h1 : (k : Int) < (m.outs.length : Int) := by omega
          have h2 : (0 : Int) ≤ (k : Int) := by omega
          have h5 := HF.out.o
          have e1 : IntKind.i64.wrap ((k : Int) + 1) = k + 1 := wrapI _ (by omega) (by omega)
          have KK := hide (And.intro (show k + 1 ≤ m.outs.length by omega) (show ((m.outs.length : Int) - ((k : Int) + 1)).toNat < ((m.outs.length : Int) - (k : Int)).toNat by omega))
          obtain ⟨ga, oa, rfl⟩ := L2.out.base (by omega)
          have RG : Hid (wr.rangeAt ga (oa + k * 2) m.outs[k].cells) := (L2.out.below J.out).range k hlt
          have hx := m.outs[k].bytes_len
          have ht := congrArg List.length (outsL_take m.outs k hlt)
          rw [List.length_append] at ht
          have hle := outsL_le m.outs (k + 1)
          have hn := HN.out
          have hbb := HB.out
          have hs0 := SY.out
          have g1 := clong_pos m.outs[k].lock.size
          have HT2 := hide (HT.out m.outs[k].lock (by omega))
          have e3 : IntKind.i64.wrap (8 + (clong m.outs[k].lock.size + m.outs[k].lock.size)) = 8 + (clong m.outs[k].lock.size + m.outs[k].lock.size) := wrapI _ (by omega) (by omega)
          have e5 : IntKind.i64.wrap (sy + ((outsL (m.outs.take k)).length : Int) + (8 + (clong m.outs[k].lock.size + m.outs[k].lock.size))) = sy + ((outsL (m.outs.take (k + 1))).length : Int) := by rw [wrapI _ (by omega) (by omega)]; omega
          clear h5 hx ht hle hn hbb hs0 g1
          generalize m.outs[k] = x at *
          clear hk hlt
          go_upto_region 10 with ((with_reducible refine at_list ?_); first | refine wpLoadO _ rfl ga (oa + k * 2) rfl x RG.out (by rfl) ?_ | refine wpList_allocA AO rfl rfl ?_ | refine wpList_store_newA AO rfl _ _ rfl _ rfl x.cells.toArray rfl x.all rfl rfl ?_)
          have c5 : (wr.alloc (.cells x.cells.toArray 70)).cell? ⟨wr.heap.size, 1, none⟩ = some (.string x.lock) := by rw [cell_of_row _ _ _ _ _ _ (heap_alloc_last wr _)]; rfl
          have J2 : Hid (Below W2.heap.size W2 (wr.alloc (.cells x.cells.toArray 70))) := J.out.alloc J.out.size _
          generalize wr.alloc (.cells x.cells.toArray 70) = wr2 at *
          clear J RG
          go_wp2_with (go_at_call 113; with_reducible refine (HT2.out _).mono ?_; rintro e W3 ⟨rfl, rfl⟩)
          exact ⟨⟨k + 1, KK.out.1, by go_num, rfl, J2.out⟩, by simpa [intOf] using KK.out.2⟩
        · have h1 : ¬ (k : Int) < (m.outs.length : Int) := by omega
          rw [List.take_of_length_le (by omega), ← HB.out]
          clear hk hlt
          go_wp2
          go_ret
          exact ⟨rfl, B3.out.trans (J.out.mono B3.out.size)⟩
end
end Go.Proofs.YtofddbjnncgmlabGreatDoor
