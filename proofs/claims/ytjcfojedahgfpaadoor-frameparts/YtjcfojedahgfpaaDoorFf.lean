/- Frames: the contracts of the document's Decode and Encode. -/
import Derived.Test.YtjcfojedahgfpaaDoorFe
namespace Go.Proofs.YtjcfojedahgfpaaDoor
open Go.RowKit
open Go.Deep
theorem results_tmp4 {fn : Func} {t u v x : Tmp} (h : fn.results = #[.tmp t, .tmp u, .tmp v, .tmp x]) (tmps : Array Value) (P : Program) (w : World) :
    (results fn tmps).run P w = .ok (.tuple #[tmps.getD t undef, tmps.getD u undef, tmps.getD v undef, tmps.getD x undef]) w := by
  simp [results, h]
theorem headM_sum {m : Nat} {s : List UInt8} (h : (headM m s).err = 0) : (headM m s).sum = leN ((s.drop 20).take 4) := by
  revert h
  unfold headM
  (repeat' split) <;> simp
theorem below_drew {B : Nat} {a w : World} (h : Below B a w) : Below B a w.drew := ⟨h.os, h.tape, h.output, h.size, h.block⟩
/-- What Decode tells, as values. -/
def Dc.vals (d : Dc) : Value := .tuple #[.string (txt d.cmd), .string (txt d.pay), .int .i64 d.pl, .int .i64 d.err]
section
set_option maxRecDepth 10000
set_option maxHeartbeats 1000000
theorem rdecode_any (m : Nat) (hm : m < 4294967296) (s : ByteArray) (hs : s.size < 2305843009213693000) (k : Int) (w : World) : Calls Tryd.prog 14 #[.int .u32 m, .string s, .int .i64 k] w fun e w' => e = .returned (decM m s.data.toList k).vals ∧ Below w.heap.size w w' := by
  generalize hR : decM m s.data.toList k = R
  have HR := hide hR
  clear hR
  unfold decM at HR
  have hl : s.data.toList.length = s.size := by simp
  rw [hl] at HR
  by_cases h0 : k < 0
  · rw [if_pos (.inl h0)] at HR
    go_enter Tryd.func14, Tryd.ntmps14
    go_wp2
    refine bodyPost_ret (results_tmp4 Tryd.results14 _ _ _) rfl ⟨by rw [← HR.out]; rfl, Below.refl _ _⟩
  by_cases h1 : (s.size : Int) < k
  · rw [if_pos (.inr h1)] at HR
    go_enter Tryd.func14, Tryd.ntmps14
    go_wp2
    refine bodyPost_ret (results_tmp4 Tryd.results14 _ _ _) rfl ⟨by rw [← HR.out]; rfl, Below.refl _ _⟩
  rw [if_neg (by omega)] at HR
  obtain ⟨k, rfl⟩ := Int.eq_ofNat_of_zero_le (show 0 ≤ k by omega)
  rw [show ((k : Nat) : Int).toNat = k from rfl] at HR
  have HH := hide fun W => rhead_any m hm (s.extract k s.size) (by simp; unfold maxLen; omega) W
  rw [ext_list] at HH
  have hz := exs s k s.size (Nat.le_refl _)
  have hd : (s.data.toList.drop k).length = s.size - k := by simp
  have hlong := headM_long m (s.data.toList.drop k)
  have h24 := @headM_ok m (s.data.toList.drop k)
  simp only at HR
  rw [hd] at h24 HR
  have hsum := @headM_sum m (s.data.toList.drop k)
  have HXL : Hid ((s.extract k s.size).data.toList = s.data.toList.drop k) := ext_list s k
  generalize headM m (s.data.toList.drop k) = H at *
  obtain ⟨he, hcmd, n, q⟩ := H
  simp only at HR HH hlong h24 hsum
  have hk : k ≤ s.size := by omega
  by_cases herr : he = 0
  · subst herr
    have h24' := h24 rfl
    rw [if_neg (by simp)] at HR
    have hze : ((s.extract k s.size).size : Int) = (s.size : Int) - k := by omega
    by_cases hcut : (s.size : Int) - k - 24 < n
    · rw [if_pos (by omega)] at HR
      clear hz hd h24 hl h1
      go_enter Tryd.func14, Tryd.ntmps14
      go_wp2_with (go_at_call 35; refine (HH.out _).mono ?_; rintro e w1 ⟨rfl, b1⟩)
      refine bodyPost_ret (results_tmp4 Tryd.results14 _ _ _) rfl ⟨by rw [← HR.out]; rfl, b1⟩
    · rw [if_neg (by omega)] at HR
      have hq := hsum rfl
      have HS := hide fun W => rsum8_any ((s.extract k s.size).extract 24 (24 + n)) (by rw [exs _ _ _ (by omega)]; omega) W
      rw [exl _ 24 (24 + n) n (by omega), HXL.out] at HS
      have HK := hide fun W => rtake_any ((s.extract k s.size).extract 20 24) W (by rw [exs _ _ _ (by omega)])
      rw [exl _ 20 24 4 rfl, HXL.out, ← hq] at HK
      have HP : Hid ((s.extract k s.size).extract 24 (24 + n) = txt (((s.data.toList.drop k).drop 24).take n)) := by
        apply ByteArray.ext
        rw [← Array.toList_inj, exl _ 24 (24 + n) n (by omega), HXL.out]
        rfl
      have hpl : IntKind.i64.wrap ((k : Int) + 24) = (k : Int) + 24 := wrap_small _ (by omega) (by omega)
      have hpl2 : IntKind.i64.wrap ((k : Int) + 24 + n) = (k : Int) + 24 + n := wrap_small _ (by omega) (by omega)
      clear hz hd h24 hl h1 hsum hq
      generalize ((s.data.toList.drop k).drop 24).take n = P at *
      generalize sumN P = sp at *
      by_cases hne : sp = q
      · rw [if_neg (by simp [hne])] at HR
        subst hne
        go_enter Tryd.func14, Tryd.ntmps14
        go_upto_region 10 with (go_at_call 35; refine (HH.out _).mono ?_; rintro e w1 ⟨rfl, b1⟩)
        go_region_with (first | (go_at_call 12; refine (HS.out _).mono ?_; rintro e w2 ⟨rfl, b2⟩) | (go_at_call 33; refine (HK.out _).mono ?_; rintro e w3 ⟨rfl, nq, rfl⟩))
        all_goals
          go_wp2
          refine bodyPost_ret (results_tmp4 Tryd.results14 _ _ _) rfl ⟨?_, below_drewN (below_next (below_drew b1) b2) _⟩
          rw [← HR.out]
          unfold Dc.vals
          rw [← HP.out]
          rfl
      · rw [if_pos hne] at HR
        have hne' : ((sp : Int) != q) = true := by simp; omega
        go_enter Tryd.func14, Tryd.ntmps14
        go_upto_region 10 with (go_at_call 35; refine (HH.out _).mono ?_; rintro e w1 ⟨rfl, b1⟩)
        go_region_with (first | (go_at_call 12; refine (HS.out _).mono ?_; rintro e w2 ⟨rfl, b2⟩) | (go_at_call 33; refine (HK.out _).mono ?_; rintro e w3 ⟨rfl, nq, rfl⟩))
        all_goals
          go_wp2
          refine bodyPost_ret (results_tmp4 Tryd.results14 _ _ _) rfl ⟨?_, below_drewN (below_next (below_drew b1) b2) _⟩
          rw [← HR.out]
          rfl
  · rw [if_pos herr] at HR
    have herr' : (he != 0) = true := by simp [herr]
    clear h24 hsum
    go_enter Tryd.func14, Tryd.ntmps14
    go_wp2_with (go_at_call 35; refine (HH.out _).mono ?_; rintro e w1 ⟨rfl, b1⟩)
    refine bodyPost_ret (results_tmp4 Tryd.results14 _ _ _) rfl ⟨by rw [← HR.out]; rfl, b1⟩
theorem encE_0 {c p : List UInt8} (h : okCmd c = true) (hp : p.length ≤ 16384) : encE c p = 0 := by
  unfold encE
  rw [if_neg (by rw [h]; decide), if_neg (by omega)]
theorem rencode_any (m : Nat) (hm : m < 4294967296) (c p : ByteArray) (hc : c.size ≤ maxLen) (hp : p.size ≤ maxLen) (w : World) : Calls Tryd.prog 7 #[.int .u32 m, .string c, .string p] w fun e w' => e = .returned (.tuple #[.string (txt (encT m c.data.toList p.data.toList)), .int .i64 (encE c.data.toList p.data.toList)]) ∧ Below w.heap.size w w' := by
  have HC := hide fun W => rcommand_any c W hc
  unfold maxLen at hc hp
  have hcl : c.data.toList.length = c.size := by simp
  have hpl : p.data.toList.length = p.size := by simp
  cases hO : okCmd c.data.toList with
  | false =>
    rw [hO] at HC
    have HE : Hid (encE c.data.toList p.data.toList = 81) := by simp [Hid, encE, hO]
    have HT : Hid (encT m c.data.toList p.data.toList = []) := by simp [Hid, encT, HE.out]
    rw [HE.out, HT.out]
    go_enter Tryd.func7, Tryd.ntmps7
    go_wp2_with (go_at_call 10; refine (HC.out _).mono ?_; rintro e w1 ⟨rfl, rfl⟩)
    go_ret2
    exact ⟨rfl, Below.refl _ _⟩
  | true =>
    rw [hO] at HC
    by_cases hlong : (16384 : Int) < p.size
    · have HE : Hid (encE c.data.toList p.data.toList = 82) := by
        unfold Hid encE
        rw [hO, if_neg (by decide), if_pos (by omega)]
      have HT : Hid (encT m c.data.toList p.data.toList = []) := by simp [Hid, encT, HE.out]
      rw [HE.out, HT.out]
      go_enter Tryd.func7, Tryd.ntmps7
      go_wp2_with (go_at_call 10; refine (HC.out _).mono ?_; rintro e w1 ⟨rfl, rfl⟩)
      go_ret2
      exact ⟨rfl, Below.refl _ _⟩
    · have hl := okCmd_len hO
      rw [hcl] at hl
      have HE := hide (encE_0 hO (show p.data.toList.length ≤ 16384 by omega))
      have HT : Hid (encT m c.data.toList p.data.toList = encB m c.data.toList p.data.toList) := by
        unfold Hid encT
        rw [if_pos HE.out]
      rw [HE.out, HT.out]
      have HL := hide fun W => rlay_any m hm W
      have HL2 := hide fun W => rlay_any p.size (by omega) W
      have HS := hide fun W => rsum8_any p (by omega) W
      have HL3 := hide fun W => rlay_any (sumN p.data.toList) (sumN_lt _) W
      have HB : Hid (∀ t : ByteArray, t.data.toList = c.data.toList ++ List.replicate (12 - c.size) 0 → txt (lowL m 4) ++ t ++ txt (lowL p.size 4) ++ txt (lowL (sumN p.data.toList) 4) ++ p = txt (encB m c.data.toList p.data.toList)) := by
        intro t ht
        apply ByteArray.ext
        rw [← Array.toList_inj]
        simp [ht, encB, txt, hcl, hpl]
      have hsn := sumN_lt p.data.toList
      generalize sumN p.data.toList = sn at *
      have z1 : (txt (lowL m 4)).size = 4 := by rw [txt_size, lowL_len]
      have z2 : (txt (lowL p.size 4)).size = 4 := by rw [txt_size, lowL_len]
      have z3 : (txt (lowL sn 4)).size = 4 := by rw [txt_size, lowL_len]
      generalize txt (lowL m 4) = M1 at *
      generalize txt (lowL p.size 4) = M2 at *
      generalize txt (lowL sn 4) = M3 at *
      have hl1 := hl.1
      have hl2 := hl.2
      clear hl
      go_enter Tryd.func7, Tryd.ntmps7
      go_wp2_with (go_at_call 10; refine (HC.out _).mono ?_; rintro e w1 ⟨rfl, rfl⟩)
      go_loop [8] (fun v => ∃ (j : Nat) (t : ByteArray), c.size + j ≤ 12 ∧ t.size = c.size + j ∧ v = .string t ∧ Hid (t.data.toList = c.data.toList ++ List.replicate j 0)) (fun v => match v with | .string t => 12 - t.size | _ => 0)
      case atStart => exact ⟨0, c, by omega, rfl, rfl, by simp [Hid]⟩
      case round =>
        obtain ⟨j, t, hj, ht, rfl, hd⟩ := hrel
        by_cases hlt : (t.size : Int) < 12
        · have hz0 : (⟨#[0]⟩ : ByteArray).size = 1 := rfl
          have HD : Hid ((t ++ ⟨#[0]⟩).data.toList = c.data.toList ++ List.replicate (j + 1) 0) := by
            simp [Hid, hd.out, List.replicate_succ']
          go_wp2
          refine ⟨⟨j + 1, t ++ ⟨#[0]⟩, by omega, by rw [ByteArray.size_append]; omega, rfl, HD⟩, ?_⟩
          simp only [ByteArray.size_append]
          omega
        · have hjj : j = 12 - c.size := by omega
          subst hjj
          go_wp2_with (first | (go_at_call_of 28 (Value.int .u32 (m : Int)); refine (HL.out _).mono ?_; rintro e w2 ⟨rfl, b2⟩) | (go_at_call_of 28 (Value.int .u32 (p.size : Int)); refine (HL2.out _).mono ?_; rintro e w3 ⟨rfl, b3⟩) | (go_at_call 12; refine (HS.out _).mono ?_; rintro e w4 ⟨rfl, b4⟩) | (go_at_call_of 28 (Value.int .u32 (sn : Int)); refine (HL3.out _).mono ?_; rintro e w5 ⟨rfl, b5⟩))
          go_ret2
          refine ⟨?_, below_next (below_next (below_next b2 b3) b4) b5⟩
          rw [← HB.out t hd.out]
          rfl
end
end Go.Proofs.YtjcfojedahgfpaaDoor
