/- The document's TakeHead: its contract. The walk of BlockHeads. -/
import Derived.Test.YtpffaaalncdjcaaGreatDoorN22
namespace Go.Proofs.YtpffaaalncdjcaaGreatDoor
open Go.RowKit
open Go.Deep
set_option linter.unusedVariables false
/-- Zeros, of which the first so many are laid over. -/
def layN (l : List UInt8) (j : Nat) : List UInt8 := l.take j ++ zeros.drop j
theorem layN_len (l : List UInt8) (hl : l.length = 32) (j : Nat) (hj : j ≤ 32) : (layN l j).length = 32 := by
  have := zeros_len
  simp [layN]
  omega
theorem layN_set (l : List UInt8) (hl : l.length = 32) (j : Nat) (hj : j < 32) (b : UInt8) (hb : l[j]'(by omega) = b) : (hc (layN l j)).setIfInBounds j (.int .u8 (b.toNat : Int)) = hc (layN l (j + 1)) := by
  subst hb
  have hz := zeros_len
  have e : (layN l j).set j (l[j]'(by omega)) = layN l (j + 1) := by
    unfold layN
    have h1 : (l.take j).length = j := by simp; omega
    rw [List.set_append_right _ _ (by omega), h1, Nat.sub_self, List.drop_eq_getElem_cons (show j < zeros.length by omega), List.set_cons_zero, ← List.take_append_getElem (show j < l.length by omega), List.append_assoc]
    rfl
  rw [← e, hc, hc, List.setIfInBounds_toArray, cellsL, cellsL, List.map_set]
section
set_option maxRecDepth 10000
set_option maxHeartbeats 4000000
theorem rhash11_any (s : ByteArray) (hs : s.size = 32) (w : World) : Calls Tryz.prog 77 #[.string s] w fun e w' => e = .returned (.agg (hc s.data.toList)) ∧ Below w.heap.size w w' := by
  have hl : s.data.toList.length = 32 := by simpa using hs
  have s1 : (w.alloc (.cells (hc zeros) 23)).heap.size = w.heap.size + 1 := by simp
  have r1 := heap_alloc_last w (.cells (hc zeros) 23)
  have R1 := hide ((Below.heap_alloc _ (.cells (hc zeros) 23) _ (lt_heap r1)).trans r1)
  have R2 := hide (heap_alloc_last (w.alloc (.cells (hc zeros) 23)) (.cells (hc zeros) 23))
  have B1 := hide (((Below.refl w.heap.size w).alloc (Nat.le_refl _) (.cells (hc zeros) 23)).alloc (by rw [s1]; omega) (.cells (hc zeros) 23))
  rw [s1] at R2
  clear r1
  go_enter Tryz.func77, Tryz.ntmps77
  go_upto_region 1 with ((with_reducible refine at_list ?_); refine wpList_allocA A24 rfl rfl ?_)
  generalize hW1 : w.alloc (.cells (hc zeros) 23) = W1 at *
  go_upto_region 3 with ((with_reducible refine at_list ?_); first | refine wpList_buildA A24 rfl rfl ?_ | refine wpList_allocA A24 rfl rfl ?_ | refine wpList_store_newA A24 rfl _ _ rfl _ rfl (hc zeros) (by rw [hc_size, zeros_len]) (hc_one _) rfl rfl ?_)
  try rw [s1]
  clear s1 hW1
  generalize W1.alloc (.cells (hc zeros) 23) = W2 at *
  go_loopw [4] (fun i wr => ∃ j : Nat, j ≤ 32 ∧ i = .int .i64 (j : Int) ∧ Hid (wr.heap[w.heap.size]? = some (.cells (hc zeros) 23 (0, 0)) ∧ wr.heap[w.heap.size + 1]? = some (.cells (hc (layN s.data.toList j)) 23 (0, 0)) ∧ Below w.heap.size w wr)) (fun i _ => (32 - intOf i).toNat)
  case atStart => exact ⟨0, by omega, rfl, R1.out, by rw [show layN s.data.toList 0 = zeros by simp [layN]]; exact R2.out, B1.out⟩
  case round =>
    clear R1 R2 B1
    obtain ⟨j, hj, rfl, J⟩ := hrel
    by_cases hlt : j < 32
    · have h1 : (j : Int) < 32 := by omega
      have h2 : (0 : Int) ≤ (j : Int) := by omega
      have h3 : j < s.size := by omega
      have h4 : (j : Int) < (s.size : Int) := by omega
      have e1 : IntKind.i64.wrap ((j : Int) + 1) = j + 1 := wrapI _ (by omega) (by omega)
      have KK := hide (And.intro (show j + 1 ≤ 32 by omega) (show ((32 : Int) - ((j : Int) + 1)).toNat < ((32 : Int) - (j : Int)).toNat by omega))
      have hb : s.data.toList[j]'(by omega) = s[j] := by simp [ByteArray.getElem_eq_getElem_data]
      have LS := hide (layN_set s.data.toList hl j hlt s[j] hb)
      have ll := layN_len s.data.toList hl j (by omega)
      have c1 : ∃ v, wr.cell? ⟨w.heap.size + 1, j, none⟩ = some v := by
        rw [cell_of_row _ _ _ _ _ _ J.out.2.1, Array.getElem?_eq_getElem (by rw [hc_size, ll]; omega)]
        exact ⟨_, rfl⟩
      obtain ⟨v, c1⟩ := c1
      have f1 := frozen_of_row wr (w.heap.size + 1) j _ _ J.out.2.1
      have J2 : Hid ((wr.setCell ⟨w.heap.size + 1, j, none⟩ (.int .u8 (s[j].toNat : Int))).heap[w.heap.size]? = some (.cells (hc zeros) 23 (0, 0)) ∧ (wr.setCell ⟨w.heap.size + 1, j, none⟩ (.int .u8 (s[j].toNat : Int))).heap[w.heap.size + 1]? = some (.cells (hc (layN s.data.toList (j + 1))) 23 (0, 0)) ∧ Below w.heap.size w (wr.setCell ⟨w.heap.size + 1, j, none⟩ (.int .u8 (s[j].toNat : Int)))) := by
        have fr := Rfr.setCell (w.heap.size + 1) wr j (.int .u8 (s[j].toNat : Int))
        exact ⟨(fr.block _ (lt_heap J.out.1) (by omega)).trans J.out.1, by rw [heap_setCell_same wr _ j _ _ _ J.out.2.1, LS.out], J.out.2.2.trans (fr.to_below (by omega) J.out.2.2.size)⟩
      clear hj hlt hb ll J LS
      go_wp2
      exact ⟨⟨j + 1, KK.out.1, by go_num, J2.out⟩, by simpa [intOf] using KK.out.2⟩
    · have h1 : ¬ (j : Int) < 32 := by omega
      obtain rfl : j = 32 := by omega
      have e : layN s.data.toList 32 = s.data.toList := by
        have := zeros_len
        unfold layN
        rw [List.take_of_length_le (by omega), List.drop_of_length_le (by omega), List.append_nil]
      have J2 := J.out
      rw [e] at J2
      obtain ⟨j1, j2, j3⟩ := J2
      have RA := hide j1
      have RB := hide j2
      have BB := hide j3
      have HL := hide hl
      clear J e j1 j2 j3 hl hs hj hlt
      generalize hD : s.data.toList = D at *
      have HDD := hide hD
      clear hD
      go_wp2_with ((with_reducible refine at_list ?_); first | refine wpList_loadS A24 _ rfl (w.heap.size + 1) rfl (hc D) (by rw [hc_size, HL.out]) 23 RB.out (by rfl) ?_ | refine wpList_storeA A24 rfl _ _ rfl w.heap.size (hc D) (by rw [hc_size, HL.out]) (hc_one _) rfl rfl (hc zeros) (by rw [hc_size, zeros_len]) 23 RA.out ?_)
      exact bodyPost_ret (v := .agg (hc D)) (resA A24 Tryz.results77 _ _ w.heap.size 23 _ (by rw [hc_size, HL.out]) rfl (setRow_heap _ _ _ _ _ _ RA.out)) rfl ⟨by rw [HDD.out], below_setRow BB.out (Nat.le_refl _) _⟩
theorem rtakeHead_no (s : ByteArray) (a : Int) (h : a < 0 ∨ (s.size : Int) < a) (w : World) : Calls Tryz.prog 37 #[.string s, .int .i64 a] w fun e w' => e = .returned (.tuple #[.agg zHd.cells.toArray, .int .i64 1]) ∧ Below w.heap.size w w' := by
  have R1 := hide (heap_alloc_last w (.cells zHd.cells.toArray 35))
  have B1 := hide ((Below.refl w.heap.size w).alloc (Nat.le_refl _) (.cells zHd.cells.toArray 35))
  have key : (decide (a < 0) = true) ∨ (decide (a < 0) = false ∧ decide (a > (s.size : Int)) = true) := by
    by_cases h1 : a < 0
    · exact .inl (decide_eq_true h1)
    · exact .inr ⟨decide_eq_false h1, decide_eq_true (by omega)⟩
  clear h
  go_enter Tryz.func37, Tryz.ntmps37
  go_upto_region 1 with ((with_reducible refine at_list ?_); refine wpList_allocA AHr rfl rfl ?_)
  generalize w.alloc (.cells zHd.cells.toArray 35) = W0 at *
  rcases key with h1 | ⟨h1, h2⟩
  all_goals
    go_wp2_with ((with_reducible refine at_list ?_); first | refine wpList_buildA AHr rfl rfl ?_ | refine wpList_storeA AHr rfl _ _ rfl w.heap.size zHd.cells.toArray zHd.size zHd.all rfl rfl zHd.cells.toArray zHd.size 35 R1.out ?_)
    exact bodyPost_ret (v := .tuple #[.agg zHd.cells.toArray, .int .i64 1]) (resA2K AHr Tryz.results37 _ _ w.heap.size 35 _ zHd.size rfl (setRow_heap _ _ _ _ _ _ R1.out) _ rfl) rfl ⟨rfl, below_setRow B1.out (Nat.le_refl _) _⟩
theorem rtakeHead_yes (s : ByteArray) (hs : s.size ≤ maxLen) (k : Nat) (hk : k ≤ s.size) (w : World) : Calls Tryz.prog 37 #[.string s, .int .i64 (k : Int)] w fun e w' => e = .returned (.tuple #[.agg (tkH (s.data.toList.drop k)).1.cells.toArray, .int .i64 (tkH (s.data.toList.drop k)).2]) ∧ Below w.heap.size w w' := by
  have R1 := hide (heap_alloc_last w (.cells zHd.cells.toArray 35))
  have B1 := hide ((Below.refl w.heap.size w).alloc (Nat.le_refl _) (.cells zHd.cells.toArray 35))
  have q1 : decide ((k : Int) < 0) = false := decide_eq_false (by omega)
  have q2 : decide ((k : Int) > (s.size : Int)) = false := decide_eq_false (by omega)
  have q3 : ¬ (k : Int) > (s.size : Int) := by omega
  have q4 : (k : Int) ≤ (s.size : Int) := by omega
  have hs2 : s.size ≤ 9223372036854775807 := hs
  have e1 : IntKind.i64.wrap ((s.size : Int) - (k : Int)) = (s.size : Int) - (k : Int) := wrapI _ (by omega) (by omega)
  have TL : (s.extract k s.size).data.toList = s.data.toList.drop k := ext_list s k
  have TZ : (s.extract k s.size).size = s.size - k := by simp
  have TT : (s.data.toList.drop k).length = s.size - k := by simp
  by_cases h80 : 80 ≤ s.size - k
  · have q5 : decide ((s.size : Int) - (k : Int) < 80) = false := decide_eq_false (by omega)
    have q6 : ¬ (s.size : Int) - (k : Int) < 80 := by omega
    generalize hT : s.extract k s.size = T at *
    have HTT := hide hT
    clear hT
    generalize hl : s.data.toList.drop k = l at *
    have HLL := hide hl
    clear hl
    have hlen : 80 ≤ l.length := by omega
    have EV : Hid (tkH l = (hdOf l hlen, 0)) := by show _ = _; rw [tkH, dif_pos hlen]
    have x1 : (T.extract 0 4).data.toList = l.take 4 := by rw [ext_mid, TL]; rfl
    have x2 : (T.extract 4 36).data.toList = (l.drop 4).take 32 := by rw [ext_mid, TL]
    have x3 : (T.extract 36 68).data.toList = (l.drop 36).take 32 := by rw [ext_mid, TL]
    have x4 : (T.extract 68 72).data.toList = (l.drop 68).take 4 := by rw [ext_mid, TL]
    have x5 : (T.extract 72 76).data.toList = (l.drop 72).take 4 := by rw [ext_mid, TL]
    have x6 : (T.extract 76 80).data.toList = (l.drop 76).take 4 := by rw [ext_mid, TL]
    have HB : Hid (∀ W, (Instr.build 35 #[(0, .int .u32 (leN (T.extract 0 4).data.toList : Int)), (1, .agg (hc (T.extract 4 36).data.toList)), (2, .agg (hc (T.extract 36 68).data.toList)), (3, .int .u32 (leN (T.extract 68 72).data.toList : Int)), (4, .int .u32 (leN (T.extract 72 76).data.toList : Int)), (5, .int .u32 (leN (T.extract 76 80).data.toList : Int))]).run Tryz.prog W = .ok (.agg (hdOf l hlen).cells.toArray) W) := fun W => by
      have this := bld_rHd (hdOf l hlen) W
      rw [show (hdOf l hlen).ver.toNat = leN (T.extract 0 4).data.toList by rw [x1]; exact u32B_nat _ (by simp; omega), show (hdOf l hlen).prev = (T.extract 4 36).data.toList from x2.symm, show (hdOf l hlen).root = (T.extract 36 68).data.toList from x3.symm, show (hdOf l hlen).time.toNat = leN (T.extract 68 72).data.toList by rw [x4]; exact u32B_nat _ (by simp; omega), show (hdOf l hlen).bits.toNat = leN (T.extract 72 76).data.toList by rw [x5]; exact u32B_nat _ (by simp; omega), show (hdOf l hlen).nonce.toNat = leN (T.extract 76 80).data.toList by rw [x6]; exact u32B_nat _ (by simp; omega)] at this
      exact this
    clear x1 x2 x3 x4 x5 x6
    have HZ := hide (hdOf l hlen).size
    have HA := hide (hdOf l hlen).all
    generalize hdOf l hlen = HD at *
    have G : Hid (∀ a b : Nat, b ≤ a + 4 → ∀ W, Calls Tryz.prog 38 #[.string (T.extract a b)] W fun e w' => e = .returned (.int .u64 (leN (T.extract a b).data.toList : Int)) ∧ w' = W) := fun a b h W => get_any (T.extract a b) W (by simp; omega)
    have G1 := hide (G.out 0 4 (by omega))
    have G4 := hide (G.out 68 72 (by omega))
    have G5 := hide (G.out 72 76 (by omega))
    have G6 := hide (G.out 76 80 (by omega))
    have X2 := hide (fun W => rhash11_any (T.extract 4 36) (by simp; omega) W)
    have X3 := hide (fun W => rhash11_any (T.extract 36 68) (by simp; omega) W)
    have UL : ∀ a b : Nat, b ≤ a + 4 → leN (T.extract a b).data.toList < 4294967296 := fun a b h => leN_lt' _ 4 4294967296 (by simp; omega) rfl
    have u1 : IntKind.u32.wrap (leN (T.extract 0 4).data.toList : Int) = (leN (T.extract 0 4).data.toList : Int) := by have := UL 0 4 (by omega); rw [IntKind.wrap_u32]; omega
    have u4 : IntKind.u32.wrap (leN (T.extract 68 72).data.toList : Int) = (leN (T.extract 68 72).data.toList : Int) := by have := UL 68 72 (by omega); rw [IntKind.wrap_u32]; omega
    have u5 : IntKind.u32.wrap (leN (T.extract 72 76).data.toList : Int) = (leN (T.extract 72 76).data.toList : Int) := by have := UL 72 76 (by omega); rw [IntKind.wrap_u32]; omega
    have u6 : IntKind.u32.wrap (leN (T.extract 76 80).data.toList : Int) = (leN (T.extract 76 80).data.toList : Int) := by have := UL 76 80 (by omega); rw [IntKind.wrap_u32]; omega
    have t1 : (80 : Int) ≤ (T.size : Int) := by omega
    have t2 : 80 ≤ T.size := by omega
    have t4 : (4 : Int) ≤ (T.size : Int) := by omega
    have t36 : (36 : Int) ≤ (T.size : Int) := by omega
    have t68 : (68 : Int) ≤ (T.size : Int) := by omega
    have t72 : (72 : Int) ≤ (T.size : Int) := by omega
    have t76 : (76 : Int) ≤ (T.size : Int) := by omega
    clear UL G TL TT hs hs2 TZ h80
    generalize leN (T.extract 0 4).data.toList = N1 at *
    generalize leN (T.extract 68 72).data.toList = N4 at *
    generalize leN (T.extract 72 76).data.toList = N5 at *
    generalize leN (T.extract 76 80).data.toList = N6 at *
    generalize (T.extract 4 36).data.toList = P2 at *
    generalize (T.extract 36 68).data.toList = P3 at *
    go_enter Tryz.func37, Tryz.ntmps37
    go_upto_region 1 with ((with_reducible refine at_list ?_); refine wpList_allocA AHr rfl rfl ?_)
    generalize w.alloc (.cells zHd.cells.toArray 35) = W0 at *
    go_upto_region 5 with fail
    clear q5 q6
    go_upto_region 6 with fail
    rw [HTT.out]
    have DV1 := hide ((Below.refl W0.heap.size W0).drew)
    refine wp_region_held_drew (S := fun W => Below w.heap.size w W) (by kernel_rfl) (below_next B1.out DV1.out) (fun hH => ?_)
    generalize hWd : W0.drew = V1 at *
    clear hWd
    refine wpAnyH_take (i := 0) (v := (.string T)) rfl (by kernel_rfl) (by kernel_rfl) (by kernel_rfl) (fun _ _ _ h => h) (yl_move (by rfl) _ (by rfl) _ (by rfl)) hH ?_
    change wpAnyH _ _ _ _ _ _ _ (Act.put _ (some 24) _) _
    simp only [Act.put, List.setIfInBounds_toArray, List.set_cons_zero, List.set_cons_succ]
    refine wpAnyH_take (i := 1) (v := (.string (T.extract 0 4))) rfl (by kernel_rfl) (by kernel_rfl) (by kernel_rfl) (fun _ _ _ h => h) (.inl ⟨by rfl, fun W _ => by go_simp⟩) hH ?_
    change wpAnyH _ _ _ _ _ _ _ (Act.put _ (some 25) _) _
    simp only [Act.put, List.setIfInBounds_toArray, List.set_cons_zero, List.set_cons_succ]
    refine wpAnyH_take (i := 4) (v := (.string T)) rfl (by kernel_rfl) (by kernel_rfl) (by kernel_rfl) (fun _ _ _ h => h) (yl_move (by rfl) _ (by rfl) _ (by rfl)) hH ?_
    change wpAnyH _ _ _ _ _ _ _ (Act.put _ (some 28) _) _
    simp only [Act.put, List.setIfInBounds_toArray, List.set_cons_zero, List.set_cons_succ]
    refine wpAnyH_take (i := 5) (v := (.string (T.extract 4 36))) rfl (by kernel_rfl) (by kernel_rfl) (by kernel_rfl) (fun _ _ _ h => h) (.inl ⟨by rfl, fun W _ => by go_simp⟩) hH ?_
    change wpAnyH _ _ _ _ _ _ _ (Act.put _ (some 29) _) _
    simp only [Act.put, List.setIfInBounds_toArray, List.set_cons_zero, List.set_cons_succ]
    refine wpAnyH_take (i := 7) (v := (.string T)) rfl (by kernel_rfl) (by kernel_rfl) (by kernel_rfl) (fun _ _ _ h => h) (yl_move (by rfl) _ (by rfl) _ (by rfl)) hH ?_
    change wpAnyH _ _ _ _ _ _ _ (Act.put _ (some 31) _) _
    simp only [Act.put, List.setIfInBounds_toArray, List.set_cons_zero, List.set_cons_succ]
    refine wpAnyH_take (i := 8) (v := (.string (T.extract 36 68))) rfl (by kernel_rfl) (by kernel_rfl) (by kernel_rfl) (fun _ _ _ h => h) (.inl ⟨by rfl, fun W _ => by go_simp⟩) hH ?_
    change wpAnyH _ _ _ _ _ _ _ (Act.put _ (some 32) _) _
    simp only [Act.put, List.setIfInBounds_toArray, List.set_cons_zero, List.set_cons_succ]
    refine wpAnyH_take (i := 10) (v := (.string T)) rfl (by kernel_rfl) (by kernel_rfl) (by kernel_rfl) (fun _ _ _ h => h) (yl_move (by rfl) _ (by rfl) _ (by rfl)) hH ?_
    change wpAnyH _ _ _ _ _ _ _ (Act.put _ (some 34) _) _
    simp only [Act.put, List.setIfInBounds_toArray, List.set_cons_zero, List.set_cons_succ]
    refine wpAnyH_take (i := 11) (v := (.string (T.extract 68 72))) rfl (by kernel_rfl) (by kernel_rfl) (by kernel_rfl) (fun _ _ _ h => h) (.inl ⟨by rfl, fun W _ => by go_simp⟩) hH ?_
    change wpAnyH _ _ _ _ _ _ _ (Act.put _ (some 35) _) _
    simp only [Act.put, List.setIfInBounds_toArray, List.set_cons_zero, List.set_cons_succ]
    refine wpAnyH_take (i := 14) (v := (.string T)) rfl (by kernel_rfl) (by kernel_rfl) (by kernel_rfl) (fun _ _ _ h => h) (yl_move (by rfl) _ (by rfl) _ (by rfl)) hH ?_
    change wpAnyH _ _ _ _ _ _ _ (Act.put _ (some 38) _) _
    simp only [Act.put, List.setIfInBounds_toArray, List.set_cons_zero, List.set_cons_succ]
    refine wpAnyH_take (i := 15) (v := (.string (T.extract 72 76))) rfl (by kernel_rfl) (by kernel_rfl) (by kernel_rfl) (fun _ _ _ h => h) (.inl ⟨by rfl, fun W _ => by go_simp⟩) hH ?_
    change wpAnyH _ _ _ _ _ _ _ (Act.put _ (some 39) _) _
    simp only [Act.put, List.setIfInBounds_toArray, List.set_cons_zero, List.set_cons_succ]
    refine wpAnyH_take (i := 18) (v := (.string T)) rfl (by kernel_rfl) (by kernel_rfl) (by kernel_rfl) (fun _ _ _ h => h) (yl_move (by rfl) _ (by rfl) _ (by rfl)) hH ?_
    change wpAnyH _ _ _ _ _ _ _ (Act.put _ (some 42) _) _
    simp only [Act.put, List.setIfInBounds_toArray, List.set_cons_zero, List.set_cons_succ]
    refine wpAnyH_take (i := 19) (v := (.string (T.extract 76 80))) rfl (by kernel_rfl) (by kernel_rfl) (by kernel_rfl) (fun _ _ _ h => h) (.inl ⟨by rfl, fun W _ => by go_simp⟩) hH ?_
    change wpAnyH _ _ _ _ _ _ _ (Act.put _ (some 43) _) _
    simp only [Act.put, List.setIfInBounds_toArray, List.set_cons_zero, List.set_cons_succ]
    refine wpAnyH_ready (rs := [2]) (by kernel_rfl) (by simp) (AllReadyH.cons rfl (fun K1 hK1 => ?_) AllReadyH.nil)
    go_simp
    refine (G1.out V1).mono ?_
    rintro r VV ⟨rfl, h9⟩
    subst VV
    refine hK1.out _ _ (below_next B1.out DV1.out) (fun hH => ?_)
    clear hK1
    refine wpAnyH_take (i := 3) (v := (.int .u32 (N1 : Int))) rfl (by kernel_rfl) (by kernel_rfl) (by kernel_rfl) (fun _ _ _ h => h) (.inl ⟨by rfl, fun W _ => by go_simp⟩) hH ?_
    change wpAnyH _ _ _ _ _ _ _ (Act.put _ (some 27) _) _
    simp only [Act.put, List.setIfInBounds_toArray, List.set_cons_zero, List.set_cons_succ]
    refine wpAnyH_ready (rs := [6]) (by kernel_rfl) (by simp) (AllReadyH.cons rfl (fun K1 hK1 => ?_) AllReadyH.nil)
    go_simp
    refine (X2.out V1).mono ?_
    rintro r V2 ⟨rfl, be⟩
    have DV2 := hide (below_next DV1.out be)
    clear be
    refine hK1.out _ _ (below_next B1.out DV2.out) (fun hH => ?_)
    clear hK1
    refine wpAnyH_ready (rs := [9]) (by kernel_rfl) (by simp) (AllReadyH.cons rfl (fun K1 hK1 => ?_) AllReadyH.nil)
    go_simp
    refine (X3.out V2).mono ?_
    rintro r V3 ⟨rfl, be⟩
    have DV3 := hide (below_next DV2.out be)
    clear be
    refine hK1.out _ _ (below_next B1.out DV3.out) (fun hH => ?_)
    clear hK1
    refine wpAnyH_ready (rs := [12]) (by kernel_rfl) (by simp) (AllReadyH.cons rfl (fun K1 hK1 => ?_) AllReadyH.nil)
    go_simp
    refine (G4.out V3).mono ?_
    rintro r VV ⟨rfl, h9⟩
    subst VV
    refine hK1.out _ _ (below_next B1.out DV3.out) (fun hH => ?_)
    clear hK1
    refine wpAnyH_take (i := 13) (v := (.int .u32 (N4 : Int))) rfl (by kernel_rfl) (by kernel_rfl) (by kernel_rfl) (fun _ _ _ h => h) (.inl ⟨by rfl, fun W _ => by go_simp⟩) hH ?_
    change wpAnyH _ _ _ _ _ _ _ (Act.put _ (some 37) _) _
    simp only [Act.put, List.setIfInBounds_toArray, List.set_cons_zero, List.set_cons_succ]
    refine wpAnyH_ready (rs := [16]) (by kernel_rfl) (by simp) (AllReadyH.cons rfl (fun K1 hK1 => ?_) AllReadyH.nil)
    go_simp
    refine (G5.out V3).mono ?_
    rintro r VV ⟨rfl, h9⟩
    subst VV
    refine hK1.out _ _ (below_next B1.out DV3.out) (fun hH => ?_)
    clear hK1
    refine wpAnyH_take (i := 17) (v := (.int .u32 (N5 : Int))) rfl (by kernel_rfl) (by kernel_rfl) (by kernel_rfl) (fun _ _ _ h => h) (.inl ⟨by rfl, fun W _ => by go_simp⟩) hH ?_
    change wpAnyH _ _ _ _ _ _ _ (Act.put _ (some 41) _) _
    simp only [Act.put, List.setIfInBounds_toArray, List.set_cons_zero, List.set_cons_succ]
    refine wpAnyH_ready (rs := [20]) (by kernel_rfl) (by simp) (AllReadyH.cons rfl (fun K1 hK1 => ?_) AllReadyH.nil)
    go_simp
    refine (G6.out V3).mono ?_
    rintro r VV ⟨rfl, h9⟩
    subst VV
    refine hK1.out _ _ (below_next B1.out DV3.out) (fun hH => ?_)
    clear hK1
    refine wpAnyH_take (i := 21) (v := (.int .u32 (N6 : Int))) rfl (by kernel_rfl) (by kernel_rfl) (by kernel_rfl) (fun _ _ _ h => h) (.inl ⟨by rfl, fun W _ => by go_simp⟩) hH ?_
    change wpAnyH _ _ _ _ _ _ _ (Act.put _ (some 45) _) _
    simp only [Act.put, List.setIfInBounds_toArray, List.set_cons_zero, List.set_cons_succ]
    have R3 := hide ((DV3.out.block _ (lt_heap R1.out)).trans R1.out)
    generalize hCK : HD.cells.toArray = CK at *
    have HCK := hide hCK
    clear hCK
    refine wpAnyH_take (i := 22) (v := (.agg CK)) rfl (by kernel_rfl) (by kernel_rfl) (by kernel_rfl) (fun _ _ _ h => h) (yl_build (by rfl) _ (by rfl) #[(0, .int .u32 (N1 : Int)), (1, .agg (hc P2)), (2, .agg (hc P3)), (3, .int .u32 (N4 : Int)), (4, .int .u32 (N5 : Int)), (5, .int .u32 (N6 : Int))] _ (by simp only [List.map_toArray, List.map_cons, List.map_nil]; rfl) HB.out) hH ?_
    change wpAnyH _ _ _ _ _ _ _ (Act.put _ (some 46) _) _
    simp only [Act.put, List.setIfInBounds_toArray, List.set_cons_zero, List.set_cons_succ]
    refine wpAnyH_ready (rs := [23]) (by kernel_rfl) (by simp) (AllReadyH.cons rfl (fun K1 hK1 => ?_) AllReadyH.nil)
    refine stepStoreA AHr (by rfl) _ _ (by rfl) w.heap.size CK HZ.out HA.out (by rfl) (by rfl) zHd.cells.toArray zHd.size 35 R3.out ?_
    refine hK1.out _ _ (below_setRow (below_next B1.out DV3.out) (Nat.le_refl _) _) (fun hH => ?_)
    clear hK1
    change wpAnyH _ _ _ _ _ _ _ (Act.put _ none _) _
    simp only [Act.put]
    refine wpAnyH_take (i := 24) (v := (.int .i64 0)) rfl (by kernel_rfl) (by kernel_rfl) (by kernel_rfl) (fun _ _ _ h => h) (.inl ⟨by rfl, fun W _ => by go_simp⟩) hH ?_
    change wpAnyH _ _ _ _ _ _ _ (Act.put _ (some 5) _) _
    simp only [Act.put, List.setIfInBounds_toArray, List.set_cons_zero, List.set_cons_succ]
    refine wpAnyH_done (by kernel_rfl) ?_ _
    clear hH
    go_wp2
    exact bodyPost_ret (v := .tuple #[.agg CK, .int .i64 0]) (resA2K AHr Tryz.results37 _ _ w.heap.size 35 _ HZ.out rfl (setRow_heap _ _ _ _ _ _ R3.out) _ rfl) rfl ⟨by rw [EV.out, HCK.out], below_setRow (below_next B1.out DV3.out) (Nat.le_refl _) _⟩
  · have q5 : decide ((s.size : Int) - (k : Int) < 80) = true := decide_eq_true (by omega)
    have q6 : (s.size : Int) - (k : Int) < 80 := by omega
    have EV : Hid (tkH (s.data.toList.drop k) = (zHd, 4)) := by show _ = _; rw [tkH, dif_neg (by omega)]
    clear TL TZ TT h80 hs hs2
    go_enter Tryz.func37, Tryz.ntmps37
    go_upto_region 1 with ((with_reducible refine at_list ?_); refine wpList_allocA AHr rfl rfl ?_)
    generalize w.alloc (.cells zHd.cells.toArray 35) = W0 at *
    go_wp2_with ((with_reducible refine at_list ?_); first | refine wpList_buildA AHr rfl rfl ?_ | refine wpList_storeA AHr rfl _ _ rfl w.heap.size zHd.cells.toArray zHd.size zHd.all rfl rfl zHd.cells.toArray zHd.size 35 R1.out ?_)
    exact bodyPost_ret (v := .tuple #[.agg zHd.cells.toArray, .int .i64 4]) (resA2K AHr Tryz.results37 _ _ w.heap.size 35 _ zHd.size rfl (setRow_heap _ _ _ _ _ _ R1.out) _ rfl) rfl ⟨by rw [EV.out], below_setRow B1.out (Nat.le_refl _) _⟩
theorem rtakeHead_any (s : ByteArray) (hs : s.size ≤ maxLen) (a : Int) (w : World) : Calls Tryz.prog 37 #[.string s, .int .i64 a] w fun e w' => e = .returned (.tuple #[.agg (tkA s a).1.cells.toArray, .int .i64 (tkA s a).2]) ∧ Below w.heap.size w w' := by
  by_cases h : a < 0 ∨ (s.size : Int) < a
  · rw [tkA, if_pos h]
    exact rtakeHead_no s a h w
  · rw [tkA, if_neg h]
    obtain ⟨k, rfl⟩ : ∃ k : Nat, a = (k : Int) := ⟨a.toNat, by omega⟩
    rw [Int.toNat_natCast]
    exact rtakeHead_yes s hs k (by omega) w
end
end Go.Proofs.YtpffaaalncdjcaaGreatDoor
namespace Go.Proofs.YtpffaaalncdjcaaGreatDoor
open Go.RowKit
open Go.Deep
set_option linter.unusedVariables false
theorem leN_lowC (k n : Nat) (h : n < 256 ^ k) : leN (lowL n k) = n := by
  induction k generalizing n with
  | zero => simp [lowL, leN] at *; omega
  | succ k ih =>
    rw [lowL, leN, ih (n / 256) (by rw [Nat.pow_succ] at h; omega), UInt8.toNat_ofNat']
    omega
theorem u32_low (n : UInt32) : u32B (lowL n.toNat 4) = n := by
  rw [u32B, leN_lowC 4 n.toNat (by have := n.toNat_lt; omega), UInt32.ofNat_toNat]
theorem hdOf_bytes (h : Hd) (hl : 80 ≤ h.bytes.length) : hdOf h.bytes hl = h := by
  obtain ⟨v, p, r, t, b, o, hp, hr⟩ := h
  have e : (⟨v, p, r, t, b, o, hp, hr⟩ : Hd).bytes = lowL v.toNat 4 ++ (p ++ (r ++ (lowL t.toNat 4 ++ (lowL b.toNat 4 ++ lowL o.toNat 4)))) := by simp [Hd.bytes, Hd.front, List.append_assoc]
  generalize (⟨v, p, r, t, b, o, hp, hr⟩ : Hd).bytes = l at *
  have d4 : l.drop 4 = p ++ (r ++ (lowL t.toNat 4 ++ (lowL b.toNat 4 ++ lowL o.toNat 4))) := by rw [e]; exact List.drop_left' (lowL_len _ _)
  have d36 : l.drop 36 = r ++ (lowL t.toNat 4 ++ (lowL b.toNat 4 ++ lowL o.toNat 4)) := by rw [show 36 = 4 + 32 from rfl, ← List.drop_drop, d4]; exact List.drop_left' hp
  have d68 : l.drop 68 = lowL t.toNat 4 ++ (lowL b.toNat 4 ++ lowL o.toNat 4) := by rw [show 68 = 36 + 32 from rfl, ← List.drop_drop, d36]; exact List.drop_left' hr
  have d72 : l.drop 72 = lowL b.toNat 4 ++ lowL o.toNat 4 := by rw [show 72 = 68 + 4 from rfl, ← List.drop_drop, d68]; exact List.drop_left' (lowL_len _ _)
  have d76 : l.drop 76 = lowL o.toNat 4 := by rw [show 76 = 72 + 4 from rfl, ← List.drop_drop, d72]; exact List.drop_left' (lowL_len _ _)
  have t0 : l.take 4 = lowL v.toNat 4 := by rw [e]; exact List.take_left' (lowL_len _ _)
  have t4 : (l.drop 4).take 32 = p := by rw [d4]; exact List.take_left' hp
  have t36 : (l.drop 36).take 32 = r := by rw [d36]; exact List.take_left' hr
  have t68 : (l.drop 68).take 4 = lowL t.toNat 4 := by rw [d68]; exact List.take_left' (lowL_len _ _)
  have t72 : (l.drop 72).take 4 = lowL b.toNat 4 := by rw [d72]; exact List.take_left' (lowL_len _ _)
  have t76 : (l.drop 76).take 4 = lowL o.toNat 4 := by rw [d76]; exact List.take_of_length_le (by rw [lowL_len]; omega)
  simp only [hdOf, t0, t4, t36, t68, t72, t76, u32_low]
theorem tkA_back (h : Hd) (s : ByteArray) (hs : s.data.toList = 120 :: h.bytes) : tkA s 1 = (h, 0) := by
  have hz : s.size = 81 := by
    have h1 : s.data.toList.length = s.size := by simp
    rw [← h1, hs, List.length_cons, h.bytes_len]
  have e : s.data.toList.drop (1 : Int).toNat = h.bytes := by rw [hs]; rfl
  rw [tkA, if_neg (by omega), e, tkH, dif_pos (by rw [h.bytes_len]; omega), hdOf_bytes]
/-- A type's fields are those of a header. -/
structure FHd (t : TypeId) : Prop where
  ex : ∃ f0 f1 f2 f3 f4 f5, Tryz.prog.underlying t = some (.struct #[f0, f1, f2, f3, f4, f5]) ∧ (f0.name ≠ "_" ∧ f1.name ≠ "_" ∧ f2.name ≠ "_" ∧ f3.name ≠ "_" ∧ f4.name ≠ "_" ∧ f5.name ≠ "_") ∧ (f0.offset = 0 ∧ f1.offset = 1 ∧ f2.offset = 33 ∧ f3.offset = 65 ∧ f4.offset = 66 ∧ f5.offset = 67) ∧
    (Tryz.prog.underlying f0.type = some (.int .u32) ∧ Tryz.prog.underlying f3.type = some (.int .u32) ∧ Tryz.prog.underlying f4.type = some (.int .u32) ∧ Tryz.prog.underlying f5.type = some (.int .u32)) ∧ Tryz.prog.underlying f1.type = some (.array 32 5) ∧ Tryz.prog.underlying f2.type = some (.array 32 5) ∧ (∀ W, (sizeOf f1.type).run Tryz.prog W = .ok 32 W) ∧ (∀ W, (sizeOf f2.type).run Tryz.prog W = .ok 32 W)
  st : Tryz.prog.stoodInHeld t = false
theorem fh_api : FHd 26 := ⟨⟨_, _, _, _, _, _, Tryz.underlying26, ⟨by decide, by decide, by decide, by decide, by decide, by decide⟩, ⟨rfl, rfl, rfl, rfl, rfl, rfl⟩, ⟨Tryz.underlying22, Tryz.underlying22, Tryz.underlying22, Tryz.underlying22⟩, Tryz.underlying24, Tryz.underlying24, fun W => by kernel_rfl, fun W => by kernel_rfl⟩, by kernel_rfl⟩
theorem fh_ref : FHd 35 := ⟨⟨_, _, _, _, _, _, Tryz.underlying35, ⟨by decide, by decide, by decide, by decide, by decide, by decide⟩, ⟨rfl, rfl, rfl, rfl, rfl, rfl⟩, ⟨Tryz.underlying22, Tryz.underlying22, Tryz.underlying22, Tryz.underlying22⟩, Tryz.underlying23, Tryz.underlying23, fun W => by kernel_rfl, fun W => by kernel_rfl⟩, by kernel_rfl⟩
theorem Hd.prev_at (h : Hd) : h.cells.toArray.extract 1 (1 + 32) = (cellsL h.prev).toArray := by
  have hl : (cellsL h.prev).length = 32 := by rw [cellsL_len, h.hp]
  simp only [Hd.cells, List.extract_toArray, List.extract]
  simp [hl]
theorem Hd.root_at (h : Hd) : h.cells.toArray.extract 33 (33 + 32) = (cellsL h.root).toArray := by
  have hl : (cellsL h.prev).length = 32 := by rw [cellsL_len, h.hp]
  have hm : (cellsL h.root).length = 32 := by rw [cellsL_len, h.hr]
  simp only [Hd.cells, List.extract_toArray, List.extract]
  rw [show 33 = 32 + 1 from rfl, List.drop_succ_cons, ← hl, List.drop_left, show (cellsL h.prev).length + 1 + (cellsL h.prev).length - ((cellsL h.prev).length + 1) = (cellsL h.root).length by omega, List.take_left]
theorem eqHd {t : TypeId} (F : FHd t) (h : Hd) (W : World) : (Op.equalIn 10000 t (.agg h.cells.toArray) (.agg h.cells.toArray)).run Tryz.prog W = .ok true W := by
  obtain ⟨⟨f0, f1, f2, f3, f4, f5, hu, ⟨n0, n1, n2, n3, n4, n5⟩, ⟨o0, o1, o2, o3, o4, o5⟩, ⟨u0, u3, u4, u5⟩, u1, u2, s1, s2⟩, st⟩ := F
  have hf : Tryz.prog.fieldsOf t = #[f0, f1, f2, f3, f4, f5] := by simp [Program.fieldsOf, hu]
  refine (run_equalIn_struct W 9999 t _ _ (by rw [hf]; exact hu) st).trans ?_
  rw [hf]
  have c0 : h.cells.toArray[0]? = some (.int .u32 (h.ver.toNat : Int)) := by rw [List.getElem?_toArray]; exact h.get0
  have c3 : h.cells.toArray[65]? = some (.int .u32 (h.time.toNat : Int)) := by rw [List.getElem?_toArray]; exact h.getL 0
  have c4 : h.cells.toArray[66]? = some (.int .u32 (h.bits.toNat : Int)) := by rw [List.getElem?_toArray]; exact h.getL 1
  have c5 : h.cells.toArray[67]? = some (.int .u32 (h.nonce.toNat : Int)) := by rw [List.getElem?_toArray]; exact h.getL 2
  have e5 := eqF_cons (W := W) (d := 9999) (xs := h.cells.toArray) (ys := h.cells.toArray) n5 (part_cell u5 rfl (by rw [o5]; exact c5)) (part_cell u5 rfl (by rw [o5]; exact c5)) (run_equalIn_int W 9998 f5.type .u32 .u32 _ _ u5) (fs := []) (r2 := true) rfl
  have e4 := eqF_cons (W := W) (d := 9999) (xs := h.cells.toArray) (ys := h.cells.toArray) n4 (part_cell u4 rfl (by rw [o4]; exact c4)) (part_cell u4 rfl (by rw [o4]; exact c4)) (run_equalIn_int W 9998 f4.type .u32 .u32 _ _ u4) e5
  have e3 := eqF_cons (W := W) (d := 9999) (xs := h.cells.toArray) (ys := h.cells.toArray) n3 (part_cell u3 rfl (by rw [o3]; exact c3)) (part_cell u3 rfl (by rw [o3]; exact c3)) (run_equalIn_int W 9998 f3.type .u32 .u32 _ _ u3) e4
  have e2 := eqF_cons (W := W) (d := 9999) (xs := h.cells.toArray) (ys := h.cells.toArray) n2 (part_row u2 rfl (s2 W) (by rw [o2]; exact h.root_at)) (part_row u2 rfl (s2 W) (by rw [o2]; exact h.root_at)) (eqC_bytes h.root h.root 32 h.hr h.hr f2.type u2 9997 W) e3
  have e1 := eqF_cons (W := W) (d := 9999) (xs := h.cells.toArray) (ys := h.cells.toArray) n1 (part_row u1 rfl (s1 W) (by rw [o1]; exact h.prev_at)) (part_row u1 rfl (s1 W) (by rw [o1]; exact h.prev_at)) (eqC_bytes h.prev h.prev 32 h.hp h.hp f1.type u1 9997 W) e2
  have e0 := eqF_cons (W := W) (d := 9999) (xs := h.cells.toArray) (ys := h.cells.toArray) n0 (part_cell u0 rfl (by rw [o0]; exact c0)) (part_cell u0 rfl (by rw [o0]; exact c0)) (run_equalIn_int W 9998 f0.type .u32 .u32 _ _ u0) e1
  simpa using e0
section
variable {S : World → Prop} {ops : Array Oper} {o : Oper} {a : Act}
theorem yl_eqlB (hw : Region.wanted o (yielded ops a.tmps) = true) (t : TypeId) (x y : Operand) (t2 : TypeId) (ho : o.op = .binOp .eql t x y t2) (c d : Array Value) (hx : a.eval x = .agg c) (hy : a.eval y = .agg d) (hg : Tryz.prog.eqGuardType Tryz.prog.depth t = false)
    (v : Bool) (hr : ∀ W, (Op.equalIn 10000 t (.agg c) (.agg d)).run Tryz.prog W = .ok v W) : YieldsIf Tryz.prog ops S o (.bool v) a :=
  .inl ⟨hw, fun W _ => by
    unfold execOp
    simp only [ho, hx, hy, Sem.run_bind, run_eqGuard_agg (P := Tryz.prog) W .eql t x y c d hg, run_eql_struct, hr W, Result.andThen_ok, Sem.run_pure]⟩
end
section
set_option maxRecDepth 10000
set_option maxHeartbeats 8000000
end
end Go.Proofs.YtpffaaalncdjcaaGreatDoor
