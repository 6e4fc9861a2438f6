/- Frames: the contracts of the document's Decode and Encode. -/
import Derived.Test.YtjcfojedahgfpaaGreatDoorFe
namespace Go.Proofs.YtjcfojedahgfpaaGreatDoor
open Go.RowKit
open Go.Deep
theorem results_tmp4 {fn : Func} {t u v x : Tmp} (h : fn.results = #[.tmp t, .tmp u, .tmp v, .tmp x]) (tmps : Array Value) (P : Program) (w : World) :
    (results fn tmps).run P w = .ok (.tuple #[tmps.getD t undef, tmps.getD u undef, tmps.getD v undef, tmps.getD x undef]) w := by
  simp [results, h]
theorem headM_sum {m : Nat} {s : List UInt8} (h : (headM m s).err = 0) : (headM m s).sum = leN ((s.drop 20).take 4) := by
  revert h
  unfold headM
  (repeat' split) <;> simp
theorem below_drew {B : Nat} {a w : World} (h : Below B a w) : Below B a w.drew := ⟨h.os, h.tape, h.output, h.size, h.block⟩
/-- What Decode tells, as values. -/
def Dc.vals (d : Dc) : Value := .tuple #[.string (txt d.cmd), .string (txt d.pay), .int .i64 d.pl, .int .i64 d.err]
section
set_option maxRecDepth 10000
set_option maxHeartbeats 1000000
theorem rdecode_any (m : Nat) (hm : m < 4294967296) (s : ByteArray) (hs : s.size < 2305843009213693000) (k : Int) (w : World) : Calls Tryz.prog 22 #[.int .u32 m, .string s, .int .i64 k] w fun e w' => e = .returned (decM m s.data.toList k).vals ∧ Below w.heap.size w w' := by
  generalize hR : decM m s.data.toList k = R
  have HR := hide hR
  clear hR
  unfold decM at HR
  have hl : s.data.toList.length = s.size := by simp
  rw [hl] at HR
  by_cases h0 : k < 0
  · rw [if_pos (.inl h0)] at HR
    go_enter Tryz.func22, Tryz.ntmps22
    go_wp2
    refine bodyPost_ret (results_tmp4 Tryz.results22 _ _ _) rfl ⟨by rw [← HR.out]; rfl, Below.refl _ _⟩
  by_cases h1 : (s.size : Int) < k
  · rw [if_pos (.inr h1)] at HR
    go_enter Tryz.func22, Tryz.ntmps22
    go_wp2
    refine bodyPost_ret (results_tmp4 Tryz.results22 _ _ _) rfl ⟨by rw [← HR.out]; rfl, Below.refl _ _⟩
  rw [if_neg (by omega)] at HR
  obtain ⟨k, rfl⟩ := Int.eq_ofNat_of_zero_le (show 0 ≤ k by omega)
  rw [show ((k : Nat) : Int).toNat = k from rfl] at HR
  have HH := hide fun W => rhead_any m hm (s.extract k s.size) (by simp; unfold maxLen; omega) W
  rw [ext_list] at HH
  have hz := exs s k s.size (Nat.le_refl _)
  have hd : (s.data.toList.drop k).length = s.size - k := by simp
  have hlong := headM_long m (s.data.toList.drop k)
  have h24 := @headM_ok m (s.data.toList.drop k)
  simp only at HR
  rw [hd] at h24 HR
  have hsum := @headM_sum m (s.data.toList.drop k)
  have HXL : Hid ((s.extract k s.size).data.toList = s.data.toList.drop k) := ext_list s k
  generalize headM m (s.data.toList.drop k) = H at *
  obtain ⟨he, hcmd, n, q⟩ := H
  simp only at HR HH hlong h24 hsum
  have hk : k ≤ s.size := by omega
  by_cases herr : he = 0
  · subst herr
    have h24' := h24 rfl
    rw [if_neg (by simp)] at HR
    have hze : ((s.extract k s.size).size : Int) = (s.size : Int) - k := by omega
    by_cases hcut : (s.size : Int) - k - 24 < n
    · rw [if_pos (by omega)] at HR
      clear hz hd h24 hl h1
      go_enter Tryz.func22, Tryz.ntmps22
      go_wp2_with (go_at_call 21; refine (HH.out _).mono ?_; rintro e w1 ⟨rfl, b1⟩)
      refine bodyPost_ret (results_tmp4 Tryz.results22 _ _ _) rfl ⟨by rw [← HR.out]; rfl, b1⟩
    · rw [if_neg (by omega)] at HR
      have hq := hsum rfl
      have HS := hide fun W => rsum8_any ((s.extract k s.size).extract 24 (24 + n)) (by rw [exs _ _ _ (by omega)]; omega) W
      rw [exl _ 24 (24 + n) n (by omega), HXL.out] at HS
      have HK := hide fun W => rtake_any ((s.extract k s.size).extract 20 24) W (by rw [exs _ _ _ (by omega)])
      rw [exl _ 20 24 4 rfl, HXL.out, ← hq] at HK
      have HP : Hid ((s.extract k s.size).extract 24 (24 + n) = txt (((s.data.toList.drop k).drop 24).take n)) := by
        apply ByteArray.ext
        rw [← Array.toList_inj, exl _ 24 (24 + n) n (by omega), HXL.out]
        rfl
      have hpl : IntKind.i64.wrap ((k : Int) + 24) = (k : Int) + 24 := wrap_small _ (by omega) (by omega)
      have hpl2 : IntKind.i64.wrap ((k : Int) + 24 + n) = (k : Int) + 24 + n := wrap_small _ (by omega) (by omega)
      clear hz hd h24 hl h1 hsum hq
      generalize ((s.data.toList.drop k).drop 24).take n = P at *
      generalize sumN P = sp at *
      by_cases hne : sp = q
      · rw [if_neg (by simp [hne])] at HR
        subst hne
        go_enter Tryz.func22, Tryz.ntmps22
        go_upto_region 10 with (go_at_call 21; refine (HH.out _).mono ?_; rintro e w1 ⟨rfl, b1⟩)
        go_region_with (first | (go_at_call 34; refine (HS.out _).mono ?_; rintro e w2 ⟨rfl, b2⟩) | (go_at_call 33; refine (HK.out _).mono ?_; rintro e w3 ⟨rfl, nq, rfl⟩))
        all_goals
          go_wp2
          refine bodyPost_ret (results_tmp4 Tryz.results22 _ _ _) rfl ⟨?_, below_drewN (below_next (below_drew b1) b2) _⟩
          rw [← HR.out]
          unfold Dc.vals
          rw [← HP.out]
          rfl
      · rw [if_pos hne] at HR
        have hne' : ((sp : Int) != q) = true := by simp; omega
        go_enter Tryz.func22, Tryz.ntmps22
        go_upto_region 10 with (go_at_call 21; refine (HH.out _).mono ?_; rintro e w1 ⟨rfl, b1⟩)
        go_region_with (first | (go_at_call 34; refine (HS.out _).mono ?_; rintro e w2 ⟨rfl, b2⟩) | (go_at_call 33; refine (HK.out _).mono ?_; rintro e w3 ⟨rfl, nq, rfl⟩))
        all_goals
          go_wp2
          refine bodyPost_ret (results_tmp4 Tryz.results22 _ _ _) rfl ⟨?_, below_drewN (below_next (below_drew b1) b2) _⟩
          rw [← HR.out]
          rfl
  · rw [if_pos herr] at HR
    have herr' : (he != 0) = true := by simp [herr]
    clear h24 hsum
    go_enter Tryz.func22, Tryz.ntmps22
    go_wp2_with (go_at_call 21; refine (HH.out _).mono ?_; rintro e w1 ⟨rfl, b1⟩)
    refine bodyPost_ret (results_tmp4 Tryz.results22 _ _ _) rfl ⟨by rw [← HR.out]; rfl, b1⟩
theorem encE_0 {c p : List UInt8} (h : okCmd c = true) (hp : p.length ≤ 16384) : encE c p = 0 := by
  unfold encE
  rw [if_neg (by rw [h]; decide), if_neg (by omega)]
end
end Go.Proofs.YtjcfojedahgfpaaGreatDoor
