/- The contracts of block.ID, block.Meets and block.idBehind. The contract of block.Mine, where a nonce is found. -/
import Derived.Test.YthhojpplbhnnfaaGreatDoorX25
namespace Go.Proofs.YthhojpplbhnnfaaGreatDoor
open Go.RowKit
open Go.Deep
set_option linter.unusedVariables false
/-- A header's id. -/
def Hd.id (h : Hd) : List UInt8 := dg2 (txt h.bytes)
theorem Hd.id_len (h : Hd) : h.id.length = 32 := dg2_len _
/-- A header meets its target. -/
def Hd.meets (h : Hd) : Bool := mt h.id h.bits.toNat
section
set_option maxRecDepth 10000
set_option maxHeartbeats 4000000
theorem hid_any (h : Hd) (w : World) (hK : Kg w) : Calls Tryz.prog 33 #[.agg h.cells.toArray] w fun e w' => e = .returned (.agg (hc h.id)) ∧ Below w.heap.size w w' := by
  have HH := hide (fun W => head_any h W)
  have HT := hide (fun W hW => twice_any (txt h.bytes) (by rw [txt_sz, h.bytes_len]; omega) W hW)
  have s1 : (w.alloc (.cells h.cells.toArray 48)).heap.size = w.heap.size + 1 := by simp
  have R1 := hide ((Below.heap_alloc _ (.cells (hc zeros) 46) _ (lt_heap (heap_alloc_last w (.cells h.cells.toArray 48)))).trans (heap_alloc_last w (.cells h.cells.toArray 48)))
  have R2 := hide (heap_alloc_last (w.alloc (.cells h.cells.toArray 48)) (.cells (hc zeros) 46))
  have b1 := ((Below.refl w.heap.size w).alloc (Nat.le_refl _) (.cells h.cells.toArray 48)).alloc (by rw [s1]; omega) (.cells (hc zeros) 46)
  have B1 := hide b1
  have KS := hide (hK.next b1)
  have CZ := hide h.size
  have IL := hide h.id_len
  rw [s1] at R2
  rw [show digest (digest (txt h.bytes).data.toList) = h.id from rfl] at HT
  clear b1 hK
  generalize h.cells.toArray = C at *
  generalize h.id = D at *
  generalize txt h.bytes = T at *
  go_enter Tryz.func33, Tryz.ntmps33
  go_upto_region 1 with ((with_reducible refine at_list ?_); first | refine wpList_boxA rfl _ rfl C rfl ?_ | refine wpList_allocA A25 rfl rfl ?_)
  try rw [s1]
  clear s1
  generalize (w.alloc (.cells C 48)).alloc (.cells (hc zeros) 46) = W0 at *
  go_wp2_with (first | (go_at_call 82; refine (HH.out _).mono ?_; rintro r W1 ⟨rfl, be⟩; have D1 := hide be; clear be) | (go_at_call 81; refine (HT.out _ (KS.out.next D1.out)).mono ?_; rintro r W2 ⟨rfl, be⟩; have D2 := hide (below_next D1.out be); clear be; have R3 := hide ((D2.out.block _ (lt_heap R2.out)).trans R2.out)) | ((with_reducible refine at_list ?_); first | refine wpList_loadS AHd _ rfl w.heap.size rfl C CZ.out 48 R1.out (by rfl) ?_ | refine wpList_storeA A25 rfl _ _ rfl (w.heap.size + 1) (hc D) (by rw [hc_size, IL.out]) (hc_one _) rfl rfl (hc zeros) (by rw [hc_size, zeros_len]) 46 R3.out ?_))
  exact bodyPost_ret (v := .agg (hc D)) (resA A25 Tryz.results33 _ _ (w.heap.size + 1) 46 _ (by rw [hc_size, IL.out]) rfl (setRow_heap _ _ _ _ _ _ R3.out)) rfl ⟨rfl, below_setRow (below_next B1.out D2.out) (by omega) _⟩
theorem hmeets_any (h : Hd) (w : World) (hK : Kg w) : Calls Tryz.prog 88 #[.agg h.cells.toArray] w fun e w' => e = .returned (.bool h.meets) ∧ Below w.heap.size w w' := by
  have HI : Hid (∀ W, Kg W → Calls Tryz.prog 33 #[.agg h.cells.toArray] W fun e w' => e = .returned (.agg (hc h.id)) ∧ Below W.heap.size W w') := fun W k => hid_any h W k
  have HM : Hid (∀ W, Calls Tryz.prog 66 #[.agg (hc h.id), .int .u32 (h.bits.toNat : Int)] W fun e w' => e = .returned (.bool h.meets) ∧ Below W.heap.size W w') := fun W => meets_any h.id h.id_len h.bits.toNat h.bits.toNat_lt W
  have R1 := hide (heap_alloc_last w (.cells h.cells.toArray 48))
  have b1 := (Below.refl w.heap.size w).alloc (Nat.le_refl _) (.cells h.cells.toArray 48)
  have B1 := hide b1
  have KS := hide (hK.next b1)
  have CZ := hide h.size
  have RB : Hid (∀ W : World, W.heap[w.heap.size]? = some (.cells h.cells.toArray 48 (0, 0)) → W.cell? ⟨w.heap.size, 66, none⟩ = some (.int .u32 (h.bits.toNat : Int))) := fun W e => by
    have := h.bits0 (rowAt _ e)
    rwa [Nat.zero_add] at this
  clear b1 hK
  generalize h.cells.toArray = C at *
  generalize h.id = D at *
  generalize h.meets = V at *
  generalize (h.bits.toNat : Int) = N at *
  go_enter Tryz.func88, Tryz.ntmps88
  go_upto_region 1 with ((with_reducible refine at_list ?_); refine wpList_boxA rfl _ rfl C rfl ?_)
  generalize w.alloc (.cells C 48) = W0 at *
  have RT : Hid (∀ W, Below W0.heap.size W0 W → W.heap[w.heap.size]? = some (.cells C 48 (0, 0))) := fun W b => (b.block _ (lt_heap R1.out)).trans R1.out
  have DV1 := hide ((Below.refl W0.heap.size W0).drew)
  refine wp_region_held_drew (S := fun W => Below W0.heap.size W0 W) (by kernel_rfl) DV1.out (fun hH => ?_)
  generalize hWd : W0.drew = V1 at *
  clear hWd
  refine wpAnyH_take (i := 0) (v := (.agg C)) rfl (by kernel_rfl) (by kernel_rfl) (by kernel_rfl) (fun _ _ _ h => h) (yl_load (by rfl) _ (by rfl) _ C (by rfl) (fun W hS => ld_row AHd CZ.out (RT.out W hS))) hH ?_
  change wpAnyH _ _ _ _ _ _ _ (Act.put _ (some 3) _) _
  simp only [Act.put, List.setIfInBounds_toArray, List.set_cons_zero, List.set_cons_succ]
  refine wpAnyH_take (i := 2) (v := (.pointer (some ⟨w.heap.size, 66, none⟩))) rfl (by kernel_rfl) (by kernel_rfl) (by kernel_rfl) (fun _ _ _ h => h) (.inl ⟨by rfl, fun W _ => by go_simp⟩) hH ?_
  change wpAnyH _ _ _ _ _ _ _ (Act.put _ (some 5) _) _
  simp only [Act.put, List.setIfInBounds_toArray, List.set_cons_zero, List.set_cons_succ]
  refine wpAnyH_take (i := 3) (v := (.int .u32 N)) rfl (by kernel_rfl) (by kernel_rfl) (by kernel_rfl) (fun _ _ _ h => h) (.inl ⟨by rfl, fun W hS => by have c4 := RB.out W (RT.out W hS); go_simp⟩) hH ?_
  change wpAnyH _ _ _ _ _ _ _ (Act.put _ (some 6) _) _
  simp only [Act.put, List.setIfInBounds_toArray, List.set_cons_zero, List.set_cons_succ]
  refine wpAnyH_ready (rs := [1]) (by kernel_rfl) (by simp) (AllReadyH.cons rfl (fun K1 hK1 => ?_) AllReadyH.nil)
  go_simp
  refine (HI.out V1 (KS.out.next DV1.out)).mono ?_
  rintro r V2 ⟨rfl, be⟩
  have DV2 := hide (below_next DV1.out be)
  clear be
  refine hK1.out _ _ DV2.out (fun hH => ?_)
  clear hK1
  refine wpAnyH_ready (rs := [4]) (by kernel_rfl) (by simp) (AllReadyH.cons rfl (fun K1 hK1 => ?_) AllReadyH.nil)
  go_simp
  refine (HM.out V2).mono ?_
  rintro r V3 ⟨rfl, be⟩
  have DV3 := hide (below_next DV2.out be)
  clear be
  refine hK1.out _ _ DV3.out (fun hH => ?_)
  clear hK1
  refine wpAnyH_take (i := 5) (v := (.bool V)) rfl (by kernel_rfl) (by kernel_rfl) (by kernel_rfl) (fun _ _ _ h => h) (.inl ⟨by rfl, fun W _ => by go_simp⟩) hH ?_
  change wpAnyH _ _ _ _ _ _ _ (Act.put _ (some 2) _) _
  simp only [Act.put, List.setIfInBounds_toArray, List.set_cons_zero, List.set_cons_succ]
  refine wpAnyH_done (by kernel_rfl) ?_ _
  clear hH
  go_wp2
  go_ret
  exact ⟨rfl, below_next B1.out DV3.out⟩
theorem idBehind_any (b : Nat) (t : List UInt8) (n : Nat) (hn : n < 4294967296) (w : World) (hK : Kg w) (hs : t.length < 1000000) (h : Hat w b t) : Calls Tryz.prog 86 #[.pointer (some ⟨b, 0, none⟩), .int .u32 (n : Int)] w fun e w' => e = .returned (.agg (hc (digest (digest (t ++ lowL n 4))))) ∧ Below w.heap.size w w' := by
  have b0 := (Below.refl w.heap.size w).alloc (Nat.le_refl _) (.cells (hc zeros) 46)
  have R0 := hide (heap_alloc_last w (.cells (hc zeros) 46))
  have B0 := hide b0
  have H0 := hide (h.below b0)
  have KS := hide (hK.next b0)
  have HS := hide hs
  have LN := hide (lowL_len n 4)
  have hD := hide (digest_len (t ++ lowL n 4))
  have hE := hide (digest_len (digest (t ++ lowL n 4)))
  have TD : Hid ((txt (lowL n 4)).data.toList = lowL n 4) := rfl
  clear b0 hK h hs
  go_enter Tryz.func86, Tryz.ntmps86
  go_upto_region 1 with ((with_reducible refine at_list ?_); refine wpList_allocA A25 rfl rfl ?_)
  generalize w.alloc (.cells (hc zeros) 46) = W0 at *
  go_upto_region 2 with (go_at_call 123; refine (newWriter_any _).mono ?_; rintro e W2 ⟨rfl, rfl⟩)
  have J0 := hide (Wb.new W0)
  generalize W0.alloc (.cells #[.slice none 0 0] 256) = W1 at *
  generalize hb : W0.heap.size = c at *
  go_upto_region 3 with (go_at_call 124; refine (wU32 (pb c) [] n hn _ (by simp) J0.out.st).mono ?_; rintro e W2 ⟨rfl, j1, f1⟩; have J1 := hide (J0.out.step j1 f1); clear j1 f1)
  rw [List.nil_append] at J1
  clear J0
  have H1 := hide (H0.out.below J1.out.bel)
  go_upto_region 4 with (go_at_call 132; refine (clone_any b t _ H1.out).mono ?_; rintro e W3 ⟨b3, rfl, h3, be, hb3⟩; have H3 := hide h3; have J2 := hide (J1.out.next be); have G3 := hide hb3; clear h3 be hb3)
  have D3 := hide (show Below W0.heap.size W0 W3 from J2.out.bel)
  have N3 : Hid (b3 ≠ 0 ∧ W0.heap.size ≤ b3) := ⟨by have := KS.out.lt; have := G3.out; have := J1.out.bel.size; omega, by have := G3.out; have := J1.out.bel.size; omega⟩
  go_upto_region 5 with (first | (go_at_call 126; refine (wText c (lowL n 4) _ J2.out.st).mono ?_; rintro e W9 ⟨rfl, h9⟩; subst W9) | (go_at_call 85; refine (write_any b3 t (txt (lowL n 4)) _ (KS.out.next D3.out) N3.out.1 (by have := HS.out; rw [txt_sz, LN.out]; omega) H3.out).mono ?_; rintro e W4 ⟨rfl, h4, f4⟩; have H4 := hide h4; have D4 := hide (D3.out.trans (f4.to_below N3.out.2 D3.out.size)); clear h4 f4))
  rw [TD.out] at H4
  clear J1 J2 H1 H3 D3 G3 H0
  go_upto_region 6 with (first | (go_at_call 133; refine (hsum_any b3 (t ++ lowL n 4) _ (KS.out.next D4.out) (by have := HS.out; rw [List.length_append, LN.out]; omega) H4.out).mono ?_; rintro e W5 ⟨rfl, be⟩; have D5 := hide (below_next D4.out be); clear be) | ((with_reducible refine at_list ?_); first | refine wpList_allocA A25 rfl rfl ?_ | refine wpList_store_newA A25 rfl _ _ rfl _ rfl (hc (digest (t ++ lowL n 4))) (by rw [hc_size, hD.out]) (hc_one _) rfl rfl ?_))
  generalize hde : digest (t ++ lowL n 4) = D at *
  have HDE := hide hde
  clear hde
  have hcv := conv_row (W5.alloc (.cells (hc D) 46)) W5.heap.size D hD.out 46 (heap_alloc_last _ _)
  have D6 := hide (below_next D5.out ((Below.refl W5.heap.size W5).alloc (Nat.le_refl _) (.cells (hc D) 46)))
  have HT := hide fun W hW => sum_any ⟨D.toArray⟩ (by show D.toArray.size < _; rw [List.size_toArray, hD.out]; omega) W hW
  rw [show (⟨D.toArray⟩ : ByteArray).data.toList = D from rfl] at HT
  generalize hee : digest D = E at *
  have HEE := hide hee
  clear hee
  clear D5 D4 H4
  generalize W5.alloc (.cells (hc D) 46) = W6 at *
  generalize W5.heap.size = g7 at *
  go_wp2_with (first | (go_at_call 122; refine (HT.out _ (KS.out.next D6.out)).mono ?_; rintro r W7 ⟨rfl, be⟩; have D7 := hide (below_next D6.out be); clear be; have R7 := hide ((D7.out.block _ (lt_heap R0.out)).trans R0.out)) | ((with_reducible refine at_list ?_); refine wpList_storeA A25 rfl _ _ rfl w.heap.size (hc E) (by rw [hc_size, hE.out]) (hc_one _) rfl rfl (hc zeros) (by rw [hc_size, zeros_len]) 46 R7.out ?_))
  exact bodyPost_ret (v := .agg (hc E)) (resA A25 Tryz.results86 _ _ w.heap.size 46 _ (by rw [hc_size, hE.out]) rfl (setRow_heap _ _ _ _ _ _ R7.out)) rfl ⟨by rw [HDE.out, HEE.out], below_setRow (below_next B0.out D7.out) (Nat.le_refl _) _⟩
end
end Go.Proofs.YthhojpplbhnnfaaGreatDoor
namespace Go.Proofs.YthhojpplbhnnfaaGreatDoor
open Go.RowKit
open Go.Deep
set_option linter.unusedVariables false
/-- The header with a nonce. -/
def Hd.at (h : Hd) (j : Nat) : Hd := { h with nonce := UInt32.ofNat j }
theorem Hd.at_bits (h : Hd) (j : Nat) : (h.at j).bits = h.bits := rfl
theorem ofNat_lt (j : Nat) (hj : j < 4294967296) : (UInt32.ofNat j).toNat = j := by
  rw [UInt32.toNat_ofNat', Nat.mod_eq_of_lt hj]
theorem Hd.at_id (h : Hd) (j : Nat) (hj : j < 4294967296) : (h.at j).id = digest (digest (h.front ++ lowL j 4)) := by
  show digest (digest (h.front ++ lowL (UInt32.ofNat j).toNat 4)) = _
  rw [ofNat_lt j hj]
theorem Hd.at_set (h : Hd) (i j : Nat) (hj : j < 4294967296) : (h.at i).cells.toArray.setIfInBounds 67 (.int .u32 (j : Int)) = (h.at j).cells.toArray := by
  have hl : (cellsL h.prev).length = 32 := by rw [cellsL_len, h.hp]
  have hm : (cellsL h.root).length = 32 := by rw [cellsL_len, h.hr]
  rw [List.setIfInBounds_toArray]
  congr 1
  show (Value.int .u32 (h.ver.toNat : Int) :: (cellsL h.prev ++ (cellsL h.root ++ [.int .u32 (h.time.toNat : Int), .int .u32 (h.bits.toNat : Int), .int .u32 ((UInt32.ofNat i).toNat : Int)]))).set 67 _ = Value.int .u32 (h.ver.toNat : Int) :: (cellsL h.prev ++ (cellsL h.root ++ [.int .u32 (h.time.toNat : Int), .int .u32 (h.bits.toNat : Int), .int .u32 ((UInt32.ofNat j).toNat : Int)]))
  rw [ofNat_lt j hj, List.set_cons_succ, List.set_append_right _ _ (by omega), hl, List.set_append_right _ _ (by omega), hm]
  rfl
theorem Hd.cut (h : Hd) : ((txt h.bytes).extract 0 76).data.toList = h.front := by
  have : ((txt h.bytes).extract 0 76).data.toList = (h.bytes.drop 0).take 76 := by
    simp [ByteArray.data_extract, txt, List.extract_eq_take_drop]
  rw [this, List.drop_zero, Hd.bytes, List.take_append_of_le_length (by rw [h.front_len]; omega), List.take_of_length_le (by rw [h.front_len]; omega)]
/-- What is known of the world while it is mined: the header's copy, the answer's place, the header that is tried, and the hasher. -/
structure Mj (w W : World) (h : Hd) (g2 g4 g9 bf i : Nat) : Prop where
  r2 : W.heap[g2]? = some (.cells h.cells.toArray 48 (0, 0))
  r4 : W.heap[g4]? = some (.cells zHd.cells.toArray 48 (0, 0))
  r9 : W.heap[g9]? = some (.cells (h.at i).cells.toArray 48 (0, 0))
  hat : Hat W bf h.front
  bel : Below w.heap.size w W
  k : Kg W
  n2 : g2 ≠ g9
  n4 : g4 ≠ g9
  nb : bf ≠ g9
  l4 : w.heap.size ≤ g4
  l9 : w.heap.size ≤ g9
theorem Mj.next {w W W' : World} {h : Hd} {g2 g4 g9 bf i : Nat} (m : Mj w W h g2 g4 g9 bf i) (b : Below W.heap.size W W') : Mj w W' h g2 g4 g9 bf i :=
  ⟨(b.block _ (lt_heap m.r2)).trans m.r2, (b.block _ (lt_heap m.r4)).trans m.r4, (b.block _ (lt_heap m.r9)).trans m.r9, m.hat.below b, below_next m.bel b, m.k.next b, m.n2, m.n4, m.nb, m.l4, m.l9⟩
theorem Mj.set {w W : World} {h : Hd} {g2 g4 g9 bf i : Nat} (m : Mj w W h g2 g4 g9 bf i) (j : Nat) (hj : j < 4294967296) (hw : 0 < w.heap.size) : Mj w (W.setCell ⟨g9, 67, none⟩ (.int .u32 (j : Int))) h g2 g4 g9 bf j := by
  have fr := Rfr.setCell g9 W 67 (.int .u32 (j : Int))
  refine ⟨(fr.block _ (lt_heap m.r2) m.n2).trans m.r2, (fr.block _ (lt_heap m.r4) m.n4).trans m.r4, ?_, m.hat.rfr m.nb fr, m.bel.trans (fr.to_below m.l9 m.bel.size), m.k.rfr (by have := m.l9; omega) fr, m.n2, m.n4, m.nb, m.l4, m.l9⟩
  rw [heap_setCell_same W g9 67 _ _ _ m.r9, h.at_set i j hj]
section
set_option maxRecDepth 10000
set_option maxHeartbeats 4000000
theorem mine_yes (h : Hd) (hn0 : h.nonce = 0) (k : Nat) (hk : k < 4294967296) (hno : ∀ j, j < k → (h.at j).meets = false) (hyes : (h.at k).meets = true) (w : World) (hK : Kg w) : Calls Tryz.prog 34 #[.agg h.cells.toArray, .int .u64 4294967296] w fun e w' => e = .returned (.tuple #[.agg (h.at k).cells.toArray, .bool true]) ∧ Below w.heap.size w w' := by
  have hok : okB h.bits.toNat = true := by
    have := hyes
    unfold Hd.meets mt at this
    rw [Bool.and_eq_true] at this
    exact this.1
  have s1 : (w.alloc (.cells h.cells.toArray 48)).heap.size = w.heap.size + 1 := by simp
  have r1 := (Below.heap_alloc _ (.cells zHd.cells.toArray 48) _ (lt_heap (heap_alloc_last w (.cells h.cells.toArray 48)))).trans (heap_alloc_last w (.cells h.cells.toArray 48))
  have r2 := heap_alloc_last (w.alloc (.cells h.cells.toArray 48)) (.cells zHd.cells.toArray 48)
  have b1 := ((Below.refl w.heap.size w).alloc (Nat.le_refl _) (.cells h.cells.toArray 48)).alloc (by rw [s1]; omega) (.cells zHd.cells.toArray 48)
  rw [s1] at r2
  have B1 := hide b1
  have R1 := hide r1
  have R2 := hide r2
  have KW := hide hK.lt
  have KS := hide (hK.next b1)
  have CZ := hide h.size
  have H0 : Hid (h.at 0 = h) := by
    show h.at 0 = h
    unfold Hd.at
    rw [show UInt32.ofNat 0 = (0 : UInt32) from rfl, ← hn0]
  have HX := hide (fun W => expand_yes h.bits.toNat h.bits.toNat_lt hok W)
  have HH := hide (fun W => head_any h W)
  have HN := hide (fun W => new_any W)
  have HCUT := hide h.cut
  have FL := hide h.front_len
  have TZ : (txt h.bytes).size = 80 := by rw [txt_sz, h.bytes_len]
  have HNO := hide hno
  have HYES := hide hyes
  have HI : Hid (∀ (j : Nat) (hj : j < 4294967296) (W : World) (bf : Nat), Kg W → Hat W bf h.front → Calls Tryz.prog 86 #[.pointer (some ⟨bf, 0, none⟩), .int .u32 (j : Int)] W fun e w' => e = .returned (.agg (hc (h.at j).id)) ∧ Below W.heap.size W w') := fun j hj W bf k hh => by
    rw [h.at_id j hj]
    exact idBehind_any bf h.front j hj W k (by rw [h.front_len]; omega) hh
  have HM : Hid (∀ (j : Nat) (W : World), Calls Tryz.prog 66 #[.agg (hc (h.at j).id), .int .u32 (h.bits.toNat : Int)] W fun e w' => e = .returned (.bool (h.at j).meets) ∧ Below W.heap.size W w') := fun j W => meets_any (h.at j).id (h.at j).id_len h.bits.toNat h.bits.toNat_lt W
  have RC : Hid (∀ (W : World) (g : Nat), W.heap[g]? = some (.cells h.cells.toArray 48 (0, 0)) → W.cell? ⟨g, 66, none⟩ = some (.int .u32 (h.bits.toNat : Int)) ∧ W.cell? ⟨g, 67, none⟩ = some (.int .u32 0)) := fun W g e => by
    have q1 := h.bits0 (rowAt _ e)
    have q2 := h.nonce0 (rowAt _ e)
    rw [Nat.zero_add] at q1 q2
    rw [hn0] at q2
    exact ⟨q1, q2⟩
  have c1 := (RC.out _ _ R1.out).1
  clear b1 r1 r2 hK hok hn0 hno hyes
  generalize tgt h.bits.toNat = TG at *
  generalize hB : h.bits.toNat = NB at *
  have HA := hide (fun j => (h.at j).size)
  have HAl := hide (fun j => (h.at j).all)
  go_enter Tryz.func34, Tryz.ntmps34
  go_upto_region 1 with ((with_reducible refine at_list ?_); first | refine wpList_boxA rfl _ rfl h.cells.toArray rfl ?_ | refine wpList_allocA AHd rfl rfl ?_)
  try rw [s1]
  clear s1
  generalize (w.alloc (.cells h.cells.toArray 48)).alloc (.cells zHd.cells.toArray 48) = W0 at *
  go_upto_region 2 with (first | (go_at_call 83; refine (HX.out _).mono ?_; rintro r W1 ⟨rfl, be⟩; have D1 := hide be; clear be) | ((with_reducible refine at_list ?_); first | refine wpList_allocA AW rfl rfl ?_ | refine wpList_store_newA AW rfl _ _ rfl _ rfl (wn TG) (wn_size _) (wn_one _) rfl rfl ?_))
  have D2 := hide (below_next D1.out ((Below.refl W1.heap.size W1).alloc (Nat.le_refl _) (.cells (wn TG) 51)))
  clear c1 D1
  generalize W1.alloc (.cells (wn TG) 51) = W2 at *
  generalize W1.heap.size = g6 at *
  go_upto_region 4 with fail
  go_upto_region 5 with (go_at_call 84; refine (HN.out _).mono ?_; rintro r W3 ⟨bf, rfl, h3, be, hb3⟩; have H3 := hide h3; have G3 := hide (Nat.le_trans D2.out.size hb3); have D3 := hide (below_next D2.out be); clear h3 be hb3)
  have R3 := hide ((D3.out.block _ (lt_heap R1.out)).trans R1.out)
  go_upto_region 6 with (first | (go_at_call 82; refine (HH.out _).mono ?_; rintro r W4 ⟨rfl, be⟩; have D4 := hide (below_next D3.out be); have H4 := hide (H3.out.below be); clear be) | (go_at_call 85; refine (write_any bf [] ((txt h.bytes).extract 0 76) _ (KS.out.next D4.out) (by have := G3.out; have := KS.out.lt; omega) (by simp; omega) H4.out).mono ?_; rintro r W5 ⟨rfl, h5, f5⟩; have H5 := hide h5; have D5 := hide (D4.out.trans (f5.to_below G3.out D4.out.size)); clear h5 f5) | ((with_reducible refine at_list ?_); refine wpList_loadS AHd _ rfl w.heap.size rfl h.cells.toArray CZ.out 48 R3.out (by rfl) ?_))
  have R5 := hide ((D5.out.block _ (lt_heap R1.out)).trans R1.out)
  have R5b := hide ((D5.out.block _ (lt_heap R2.out)).trans R2.out)
  rw [List.nil_append, HCUT.out] at H5
  clear H3 H4 R3 D3 D4 D2 HX HH HN HCUT FL TZ
  go_upto_region 7 with ((with_reducible refine at_list ?_); first | refine wpList_loadS AHd _ rfl w.heap.size rfl h.cells.toArray CZ.out 48 R5.out (by rfl) ?_ | refine wpList_allocA AHd rfl rfl ?_ | refine wpList_store_newA AHd rfl _ _ rfl _ rfl h.cells.toArray CZ.out (h.all) rfl rfl ?_)
  have J0 : Hid (Mj w (W5.alloc (.cells h.cells.toArray 48)) h w.heap.size (w.heap.size + 1) W5.heap.size bf 0) := by
    have bb := (Below.refl W5.heap.size W5).alloc (Nat.le_refl _) (.cells h.cells.toArray 48)
    have l1 := lt_heap R5.out
    have l2 := lt_heap R5b.out
    have l3 := H5.out.lt
    refine ⟨(bb.block _ l1).trans R5.out, (bb.block _ l2).trans R5b.out, ?_, H5.out.below bb, below_next B1.out (below_next D5.out bb), KS.out.next (below_next D5.out bb), by omega, by omega, by omega, by omega, by omega⟩
    rw [H0.out]
    exact heap_alloc_last _ _
  clear R5 R5b H5 D5
  generalize W5.alloc (.cells h.cells.toArray 48) = W6 at *
  generalize W5.heap.size = g9 at *
  have c2 := (RC.out _ _ J0.out.r2).2
  go_upto_region 9 with fail
  clear c2
  go_loopw [11] (fun i wr => ∃ j : Nat, j ≤ k ∧ i = .int .u64 (j : Int) ∧ ∃ p : Nat, Hid (Mj w wr h w.heap.size (w.heap.size + 1) g9 bf p)) (fun i _ => (k + 1 - intOf i).toNat)
  case atStart => exact ⟨0, Nat.zero_le _, rfl, 0, J0⟩
  case round =>
    clear J0
    obtain ⟨j, hj, rfl, p, J⟩ := hrel
    have hj2 := hide (show j < 4294967296 by omega)
    have h1 : decide ((j : Int) < 4294967296) = true := decide_eq_true (by omega)
    have h1' : (j : Int) < 4294967296 := by omega
    have e1 : IntKind.u32.wrap (j : Int) = (j : Int) := by rw [IntKind.wrap_u32]; omega
    have e2 : IntKind.u64.wrap ((j : Int) + 1) = (j : Int) + 1 := wrapu _ (by omega) (by omega)
    have MS := hide (show ((k : Int) + 1 - ((j : Int) + 1)).toNat < ((k : Int) + 1 - (j : Int)).toNat by omega)
    have JK := hide hj
    clear hj hk
    have J1 := hide (J.out.set j hj2.out KW.out)
    have c4 : wr.cell? ⟨g9, 67, none⟩ = some (.int .u32 ((h.at p).nonce.toNat : Int)) := by
      have q2 := (h.at p).nonce0 (rowAt _ J.out.r9)
      rwa [Nat.zero_add] at q2
    have f4 := frozen_of_row wr g9 67 _ _ J.out.r9
    clear J
    go_upto_region 12 with fail
    clear c4 f4 h1 h1' e1
    generalize wr.setCell ⟨g9, 67, none⟩ (.int .u32 (j : Int)) = W7 at *
    have CN : Hid (∀ W, Below W7.heap.size W7 W → W.cell? ⟨g9, 67, none⟩ = some (.int .u32 (j : Int)) ∧ W.cell? ⟨w.heap.size, 66, none⟩ = some (.int .u32 (NB : Int))) := fun W b => by
      have q := J1.out.next b
      have q2 := (h.at j).nonce0 (rowAt _ q.r9)
      rw [Nat.zero_add, show (h.at j).nonce = UInt32.ofNat j from rfl, ofNat_lt j hj2.out] at q2
      exact ⟨q2, (RC.out _ _ q.r2).1⟩
    have DV1 := hide ((Below.refl W7.heap.size W7).drew)
    have HIj := hide (fun W => HI.out j hj2.out W bf)
    have HMj := hide (fun W => HM.out j W)
    have NN := hide (fun (h : j < k) => HNO.out j h)
    generalize hV : (h.at j).meets = V at *
    generalize (h.at j).id = ID at *
    refine wp_region_held_drew (S := fun W => Below W7.heap.size W7 W) (by kernel_rfl) DV1.out (fun hH => ?_)
    generalize hWd : W7.drew = V1 at *
    clear hWd
    refine wpAnyH_take (i := 0) (v := (.pointer (some ⟨bf, 0, none⟩))) rfl (by kernel_rfl) (by kernel_rfl) (by kernel_rfl) (fun _ _ _ h => h) (yl_move (by rfl) _ (by rfl) _ (by rfl)) hH ?_
    change wpAnyH _ _ _ _ _ _ _ (Act.put _ (some 46) _) _
    simp only [Act.put, List.setIfInBounds_toArray, List.set_cons_zero, List.set_cons_succ]
    refine wpAnyH_take (i := 1) (v := (.pointer (some ⟨g9, 67, none⟩))) rfl (by kernel_rfl) (by kernel_rfl) (by kernel_rfl) (fun _ _ _ h => h) (.inl ⟨by rfl, fun W _ => by go_simp⟩) hH ?_
    change wpAnyH _ _ _ _ _ _ _ (Act.put _ (some 47) _) _
    simp only [Act.put, List.setIfInBounds_toArray, List.set_cons_zero, List.set_cons_succ]
    refine wpAnyH_take (i := 2) (v := (.int .u32 (j : Int))) rfl (by kernel_rfl) (by kernel_rfl) (by kernel_rfl) (fun _ _ _ h => h) (.inl ⟨by rfl, fun W hS => by have c4 := (CN.out W hS).1; go_simp⟩) hH ?_
    change wpAnyH _ _ _ _ _ _ _ (Act.put _ (some 48) _) _
    simp only [Act.put, List.setIfInBounds_toArray, List.set_cons_zero, List.set_cons_succ]
    refine wpAnyH_take (i := 4) (v := (.pointer (some ⟨w.heap.size, 66, none⟩))) rfl (by kernel_rfl) (by kernel_rfl) (by kernel_rfl) (fun _ _ _ h => h) (.inl ⟨by rfl, fun W _ => by go_simp⟩) hH ?_
    change wpAnyH _ _ _ _ _ _ _ (Act.put _ (some 50) _) _
    simp only [Act.put, List.setIfInBounds_toArray, List.set_cons_zero, List.set_cons_succ]
    refine wpAnyH_take (i := 5) (v := (.int .u32 (NB : Int))) rfl (by kernel_rfl) (by kernel_rfl) (by kernel_rfl) (fun _ _ _ h => h) (.inl ⟨by rfl, fun W hS => by have c4 := (CN.out W hS).2; go_simp⟩) hH ?_
    change wpAnyH _ _ _ _ _ _ _ (Act.put _ (some 51) _) _
    simp only [Act.put, List.setIfInBounds_toArray, List.set_cons_zero, List.set_cons_succ]
    refine wpAnyH_ready (rs := [3]) (by kernel_rfl) (by simp) (AllReadyH.cons rfl (fun K1 hK1 => ?_) AllReadyH.nil)
    go_simp
    refine (HIj.out V1 (J1.out.next DV1.out).k (J1.out.next DV1.out).hat).mono ?_
    rintro r V2 ⟨rfl, be⟩
    have DV2 := hide (below_next DV1.out be)
    clear be
    refine hK1.out _ _ DV2.out (fun hH => ?_)
    clear hK1
    refine wpAnyH_ready (rs := [6]) (by kernel_rfl) (by simp) (AllReadyH.cons rfl (fun K1 hK1 => ?_) AllReadyH.nil)
    go_simp
    refine (HMj.out V2).mono ?_
    rintro r V3 ⟨rfl, be⟩
    have DV3 := hide (below_next DV2.out be)
    clear be
    refine hK1.out _ _ DV3.out (fun hH => ?_)
    clear hK1
    refine wpAnyH_done (by kernel_rfl) ?_ _
    clear hH
    have J3 := hide (J1.out.next DV3.out)
    have HVV := hide hV
    clear hV CN HIj HMj DV1 DV2 DV3 J1
    by_cases hjk : j < k
    · have e3 := NN.out hjk
      subst e3
      have JK2 := hide (show j + 1 ≤ k by omega)
      clear hjk
      go_wp2
      exact ⟨⟨j + 1, JK2.out, by go_num, j, J3⟩, by simpa [intOf] using MS.out⟩
    · have ejk : j = k := by have := JK.out; omega
      subst ejk
      have e3 : V = true := HVV.out.symm.trans HYES.out
      subst e3
      have R9 := hide J3.out.r9
      have R4 := hide J3.out.r4
      have HS9 := hide (HA.out j)
      have HL9 := hide (HAl.out j)
      generalize hCJ : (h.at j).cells.toArray = CJ at *
      have HCJ := hide hCJ
      clear hCJ
      go_wp2_with ((with_reducible refine at_list ?_); first | refine wpList_loadS AHd _ rfl g9 rfl CJ HS9.out 48 R9.out (by rfl) ?_ | refine wpList_storeA AHd rfl _ _ rfl (w.heap.size + 1) CJ HS9.out HL9.out rfl rfl zHd.cells.toArray zHd.size 48 R4.out ?_)
      exact bodyPost_ret (v := .tuple #[.agg CJ, .bool true]) (resA2K AHd Tryz.results34 _ _ (w.heap.size + 1) 48 _ HS9.out rfl (setRow_heap _ _ _ _ _ _ R4.out) _ rfl) rfl ⟨by rw [HCJ.out], below_setRow J3.out.bel (by omega) _⟩
end
end Go.Proofs.YthhojpplbhnnfaaGreatDoor
