/- Frames: the contract of Decode. -/
import Derived.Test.YtjcfojedahgfpaaDoorFh
namespace Go.Proofs.YtjcfojedahgfpaaDoor
open Go.RowKit
open Go.Deep
/-- What Decode of the program tells, as values. -/
def Dc.valp (d : Dc) : Value := .tuple #[.agg (fr2 d.cmd d.pay), .int .i64 d.pl, .int .i64 d.err]
/-- The cells of a head at block g. -/
theorem head_cells {W : World} {g : Nat} {h : Hd} (r : W.heap[g]? = some (.cells (hd3 h) 67 (0, 0))) : W.cell? ⟨g, 0, none⟩ = some (.string (txt h.cmd)) ∧ W.cell? ⟨g, 1, none⟩ = some (.int .i64 (h.long : Int)) ∧ W.cell? ⟨g, 2, none⟩ = some (.int .u32 (h.sum : Int)) :=
  ⟨by rw [cell_of_row W _ 0 _ _ _ r]; rfl, by rw [cell_of_row W _ 1 _ _ _ r]; rfl, by rw [cell_of_row W _ 2 _ _ _ r]; rfl⟩
section
set_option maxRecDepth 10000
set_option maxHeartbeats 1000000
theorem decode_any (m : Nat) (hm : m < 4294967296) (s : ByteArray) (hs : s.size < 2305843009213693000) (k : Int) (w : World) (hK : Kg w) : Calls Tryd.prog 13 #[.int .u32 m, .string s, .int .i64 k] w fun e w' => e = .returned (decM m s.data.toList k).valp ∧ Below w.heap.size w w' := by
  generalize hR : decM m s.data.toList k = R
  have HR := hide hR
  clear hR
  unfold decM at HR
  have hl : s.data.toList.length = s.size := by simp
  rw [hl] at HR
  have B1 : Hid (Below w.heap.size w (w.alloc (.cells fz2 24))) := (Below.refl _ _).alloc (Nat.le_refl _) _
  have R1 := hide (heap_alloc_last w (.cells fz2 24))
  have KW : Hid (∀ W, Below w.heap.size w W → Kg W) := fun W h => hK.next h
  clear hK
  by_cases h0 : k < 0
  · rw [if_pos (.inl h0)] at HR
    go_enter Tryd.func13, Tryd.ntmps13
    go_upto_region 1 with (refine wpList_allocA AF rfl rfl ?_)
    generalize w.alloc (.cells fz2 24) = W1 at *
    go_wp2_with (first | refine wpList_buildA AF rfl rfl ?_ | refine wpList_storeA AF rfl _ _ rfl w.heap.size fz2 rfl fz2_one rfl rfl fz2 rfl 24 R1.out ?_)
    exact bodyPost_ret (v := .tuple #[.agg fz2, .int .i64 0, .int .i64 1]) (resA3 AF Tryd.results13 _ _ w.heap.size 24 fz2 rfl rfl (setRow_heap _ _ _ _ _ _ R1.out) _ (by rfl) _ (by rfl)) rfl ⟨by rw [← HR.out]; rfl, below_setRow B1.out (Nat.le_refl _) _⟩
  by_cases h1 : (s.size : Int) < k
  · rw [if_pos (.inr h1)] at HR
    go_enter Tryd.func13, Tryd.ntmps13
    go_upto_region 1 with (refine wpList_allocA AF rfl rfl ?_)
    generalize w.alloc (.cells fz2 24) = W1 at *
    go_wp2_with (first | refine wpList_buildA AF rfl rfl ?_ | refine wpList_storeA AF rfl _ _ rfl w.heap.size fz2 rfl fz2_one rfl rfl fz2 rfl 24 R1.out ?_)
    exact bodyPost_ret (v := .tuple #[.agg fz2, .int .i64 0, .int .i64 1]) (resA3 AF Tryd.results13 _ _ w.heap.size 24 fz2 rfl rfl (setRow_heap _ _ _ _ _ _ R1.out) _ (by rfl) _ (by rfl)) rfl ⟨by rw [← HR.out]; rfl, below_setRow B1.out (Nat.le_refl _) _⟩
  rw [if_neg (by omega)] at HR
  obtain ⟨k, rfl⟩ := Int.eq_ofNat_of_zero_le (show 0 ≤ k by omega)
  rw [show ((k : Nat) : Int).toNat = k from rfl] at HR
  have HH := hide fun W => readHead_any m hm (s.extract k s.size) (by simp; unfold maxLen; omega) W
  rw [ext_list] at HH
  have hz := exs s k s.size (Nat.le_refl _)
  have hd : (s.data.toList.drop k).length = s.size - k := by simp
  have hlong := headM_long m (s.data.toList.drop k)
  have h24 := @headM_ok m (s.data.toList.drop k)
  simp only at HR
  rw [hd] at h24 HR
  have HXL : Hid ((s.extract k s.size).data.toList = s.data.toList.drop k) := ext_list s k
  generalize headM m (s.data.toList.drop k) = H at *
  obtain ⟨he, hcmd, n, q⟩ := H
  simp only at HR HH hlong h24
  have hk : k ≤ s.size := by omega
  have hpl : IntKind.i64.wrap ((k : Int) + 24) = (k : Int) + 24 := wrap_small _ (by omega) (by omega)
  go_enter Tryd.func13, Tryd.ntmps13
  go_upto_region 1 with (refine wpList_allocA AF rfl rfl ?_)
  generalize w.alloc (.cells fz2 24) = W1 at *
  go_upto_region 4 with (first | (go_at_call 34; refine (HH.out _).mono ?_; rintro e w2 ⟨rfl, b2⟩) | refine wpList_allocA AH rfl rfl ?_ | refine wpList_store_newA AH rfl _ _ rfl _ rfl (hd3 ⟨he, hcmd, n, q⟩) rfl (hd3_one _) rfl rfl ?_)
  have b3 : Below w2.heap.size w2 (w2.alloc (.cells (hd3 ⟨he, hcmd, n, q⟩) 67)) := (Below.refl _ _).alloc (Nat.le_refl _) _
  have B3 := hide (below_next (below_next B1.out b2) b3)
  have R3 := hide ((b3.block _ (Nat.lt_of_lt_of_le (lt_heap R1.out) b2.size)).trans ((b2.block _ (lt_heap R1.out)).trans R1.out))
  have G3 := hide (heap_alloc_last w2 (.cells (hd3 ⟨he, hcmd, n, q⟩) 67))
  clear b2 b3 B1 R1
  generalize w2.alloc (.cells (hd3 ⟨he, hcmd, n, q⟩) 67) = W3 at *
  generalize w2.heap.size = gh at *
  by_cases herr : he = 0
  · subst herr
    have h24' := h24 rfl
    rw [if_neg (by simp)] at HR
    have x1 : W3.cell? ⟨gh, 1, none⟩ = some (.int .i64 (n : Int)) := (head_cells G3.out).2.1
    by_cases hcut : (s.size : Int) - ((k : Int) + 24) < n
    · rw [if_pos (by omega)] at HR
      clear hz hd h24 hl h1
      go_wp2_with (first | refine wpList_buildA AF rfl rfl ?_ | refine wpList_storeA AF rfl _ _ rfl w.heap.size fz2 rfl fz2_one rfl rfl fz2 rfl 24 R3.out ?_)
      exact bodyPost_ret (v := .tuple #[.agg fz2, .int .i64 0, .int .i64 4]) (resA3 AF Tryd.results13 _ _ w.heap.size 24 fz2 rfl rfl (setRow_heap _ _ _ _ _ _ R3.out) _ (by rfl) _ (by rfl)) rfl ⟨by rw [← HR.out]; rfl, below_setRow B3.out (Nat.le_refl _) _⟩
    · rw [if_neg (by omega)] at HR
      have hpl2 : IntKind.i64.wrap ((k : Int) + 24 + n) = (k : Int) + 24 + n := wrap_small _ (by omega) (by omega)
      have HP : Hid (s.extract (k + 24) (k + 24 + n) = txt (((s.data.toList.drop k).drop 24).take n)) := by
        apply ByteArray.ext
        rw [← Array.toList_inj, exl _ (k + 24) (k + 24 + n) n (by omega), List.drop_drop]
        rfl
      have HS := hide fun W hW => fsum_any (s.extract (k + 24) (k + 24 + n)) (by rw [exs _ _ _ (by omega)]; omega) W hW
      rw [HP.out, txt_list] at HS
      clear hz hd h24 hl h1
      generalize ((s.data.toList.drop k).drop 24).take n = P at *
      generalize sumN P = sp at *
      go_upto_region 11 with fail
      rw [HP.out]
      clear HXL HP HH
      have x2 : W3.cell? ⟨gh, 2, none⟩ = some (.int .u32 (q : Int)) := (head_cells G3.out).2.2
      by_cases hne : sp = q
      · rw [if_neg (by simp [hne])] at HR
        subst hne
        go_region_with (go_at_call 11; refine (HS.out _ (KW.out _ (below_drew B3.out))).mono ?_; rintro e w4 ⟨rfl, b4⟩; have G4 := hide ((b4.block _ (lt_heap G3.out)).trans G3.out); have R4 := hide ((b4.block _ (lt_heap R3.out)).trans R3.out); have B4 := hide (below_next (below_drew B3.out) b4); have y2 : w4.cell? ⟨gh, 2, none⟩ = some (.int .u32 (sp : Int)) := (head_cells G4.out).2.2; clear b4)
        all_goals
          have y0 : w4.cell? ⟨gh, 0, none⟩ = some (.string (txt hcmd)) := (head_cells G4.out).1
          go_wp2_with (first | refine wpList_storeA AF rfl _ _ rfl w.heap.size (fr2 hcmd P) rfl (fr2_one _ _) rfl rfl fz2 rfl 24 R4.out ?_)
          exact bodyPost_ret (v := .tuple #[.agg (fr2 hcmd P), .int .i64 ((k : Int) + 24 + n), .int .i64 0]) (resA3 AF Tryd.results13 _ _ w.heap.size 24 (fr2 hcmd P) rfl rfl (setRow_heap _ _ _ _ _ _ R4.out) _ (by rfl) _ (by rfl)) rfl ⟨by rw [← HR.out]; rfl, below_setRow B4.out (Nat.le_refl _) _⟩
      · rw [if_pos hne] at HR
        have hne' : ((sp : Int) != q) = true := by simp; omega
        go_region_with (go_at_call 11; refine (HS.out _ (KW.out _ (below_drew B3.out))).mono ?_; rintro e w4 ⟨rfl, b4⟩; have G4 := hide ((b4.block _ (lt_heap G3.out)).trans G3.out); have R4 := hide ((b4.block _ (lt_heap R3.out)).trans R3.out); have B4 := hide (below_next (below_drew B3.out) b4); have y2 : w4.cell? ⟨gh, 2, none⟩ = some (.int .u32 (q : Int)) := (head_cells G4.out).2.2; clear b4)
        all_goals
          go_wp2_with (first | refine wpList_buildA AF rfl rfl ?_ | refine wpList_storeA AF rfl _ _ rfl w.heap.size fz2 rfl fz2_one rfl rfl fz2 rfl 24 R4.out ?_)
          exact bodyPost_ret (v := .tuple #[.agg fz2, .int .i64 0, .int .i64 83]) (resA3 AF Tryd.results13 _ _ w.heap.size 24 fz2 rfl rfl (setRow_heap _ _ _ _ _ _ R4.out) _ (by rfl) _ (by rfl)) rfl ⟨by rw [← HR.out]; rfl, below_setRow B4.out (Nat.le_refl _) _⟩
  · rw [if_pos herr] at HR
    have herr' : (he != 0) = true := by simp [herr]
    clear h24
    go_wp2_with (first | refine wpList_buildA AF rfl rfl ?_ | refine wpList_storeA AF rfl _ _ rfl w.heap.size fz2 rfl fz2_one rfl rfl fz2 rfl 24 R3.out ?_)
    exact bodyPost_ret (v := .tuple #[.agg fz2, .int .i64 0, .int .i64 he]) (resA3 AF Tryd.results13 _ _ w.heap.size 24 fz2 rfl rfl (setRow_heap _ _ _ _ _ _ R3.out) _ (by rfl) _ (by rfl)) rfl ⟨by rw [← HR.out]; rfl, below_setRow B3.out (Nat.le_refl _) _⟩
end
end Go.Proofs.YtjcfojedahgfpaaDoor
