/- Frames: the contract of the document's Head. -/
import Derived.Test.YtjcfojedahgfpaaDoorFd
namespace Go.Proofs.YtjcfojedahgfpaaDoor
open Go.RowKit
open Go.Deep
theorem like_no (m : Nat) (s M : ByteArray) (hM : M = txt (lowL m 4)) (k : Nat) (h4 : k < 4) (hk : k < s.size) (h5 : k < M.size) (h : s[k] ≠ M[k]) : likeM m s.data.toList = false := by
  subst hM
  cases e : likeM m s.data.toList with
  | false => rfl
  | true =>
    unfold likeM at e
    rw [beq_iff_eq] at e
    have e2 := congrArg (fun l => l[k]?) e
    simp only [List.getElem?_take, h4, if_true] at e2
    rw [if_pos (by simpa using hk), List.getElem?_eq_getElem (by simpa using hk), List.getElem?_eq_getElem (by rw [lowL_len]; omega)] at e2
    injection e2 with e3
    exact absurd e3 h
theorem like_yes (m : Nat) (s M : ByteArray) (hM : M = txt (lowL m 4)) (h : ∀ j (_ : j < 4) (hj : j < s.size) (hj5 : j < M.size), s[j] = M[j]) : likeM m s.data.toList = true := by
  subst hM
  unfold likeM
  rw [beq_iff_eq]
  apply List.ext_getElem
  · simp [lowL_len]
    omega
  · intro j h1 h2
    simp at h1
    rw [List.getElem_take, List.getElem_take]
    exact h j (by omega) (by omega) (by rw [txt_size, lowL_len]; omega)
theorem exl (s : ByteArray) (i j n : Nat) (h : j - i = n) : (s.extract i j).data.toList = (s.data.toList.drop i).take n := by
  subst h
  simp
theorem exs (s : ByteArray) (i j : Nat) (h : j ≤ s.size) : (s.extract i j).size = j - i := by
  simp
  omega
theorem tle (l : List UInt8) : (txt l).toList.isEmpty = l.isEmpty := by rw [ByteArray.toList_eq, txt_list]
section
set_option maxRecDepth 10000
set_option maxHeartbeats 1000000
theorem rhead_any (m : Nat) (hm : m < 4294967296) (s : ByteArray) (hs : s.size ≤ maxLen) (w : World) : Calls Tryd.prog 35 #[.int .u32 m, .string s] w fun e w' => e = .returned (.tuple #[.string (txt (headM m s.data.toList).cmd), .int .i64 (headM m s.data.toList).long, .int .i64 (headM m s.data.toList).err]) ∧ Below w.heap.size w w' := by
  unfold maxLen at hs
  generalize hR : headM m s.data.toList = R
  have HR := hide hR
  clear hR
  have HL := hide fun W => rlay_any m hm W
  have hM : (txt (lowL m 4)).size = 4 := by rw [txt_size, lowL_len]
  generalize he : txt (lowL m 4) = M at *
  have HY := hide (like_yes m s M he.symm)
  have HN := hide (like_no m s M he.symm)
  clear he
  go_enter Tryd.func35, Tryd.ntmps35
  go_wp2_with (go_at_call 28; refine (HL.out _).mono ?_; rintro e w1 ⟨rfl, b1⟩)
  have B1 := hide b1
  clear b1
  go_loopw [8] (fun i w' => ∃ k : Nat, k ≤ 4 ∧ k ≤ s.size ∧ i = .int .i64 k ∧ Hid (∀ j (_ : j < 4) (hj : j < s.size) (hj5 : j < M.size), j < k → s[j] = M[j]) ∧ Hid (Below w.heap.size w w')) (fun i _ => (4 - intOf i).toNat)
  case atStart => exact ⟨0, by omega, by omega, rfl, fun j h4 hj _ h => absurd h (Nat.not_lt_zero _), B1⟩
  case round =>
    obtain ⟨k, hk, hks, rfl, hb, hw⟩ := hrel
    have hcs : (k < 4 ∧ (k : Int) < s.size) ∨ (k < 4 ∧ ¬ (k : Int) < s.size) ∨ ¬ (k : Int) < 4 := by
      by_cases h : k < 4
      · by_cases h2 : (k : Int) < s.size
        · exact .inl ⟨h, h2⟩
        · exact .inr (.inl ⟨h, h2⟩)
      · exact .inr (.inr (by omega))
    rcases hcs with ⟨h1, h2⟩ | hcs
    · have h3 : k < s.size := by omega
      have h5 : k < M.size := by omega
      by_cases h6 : (s[k].toNat : Int) = M[k].toNat
      · have HE : Hid (s[k] = M[k]) := UInt8.toNat_inj.1 (by omega)
        go_upto_region 5 with fail
        go_quiet (fail)
        go_wp2
        refine ⟨⟨k + 1, by omega, by omega, by go_num, fun j h4 hj hj5 hjk => ?_, below_drewN hw.out _⟩, by simp [intOf]; omega⟩
        by_cases e : j = k
        · subst e
          exact HE.out
        · exact hb.out j h4 hj hj5 (by omega)
      · have HF : Hid (R = ⟨80, [], 0, 0⟩) := by
          rw [← HR.out]
          unfold headM
          rw [if_pos (HN.out k h1 h3 h5 (fun e => h6 (by rw [e])))]
          rfl
        go_upto_region 5 with fail
        go_quiet (fail)
        go_wp2
        go_ret3
        exact ⟨by rw [HF.out]; rfl, below_drewN hw.out _⟩
    · have HF : Hid (likeM m s.data.toList = true) := HY.out (fun j h4 hj hj5 => hb.out j h4 hj hj5 (by omega))
      clear hb HY HN HL
      have HK := hide fun W t (ht : t.size = 4) => rtake_any t W ht
      have HNM := hide fun W t (ht : t.size = 12) => named_any t W ht
      unfold headM at HR
      rw [HF.out, if_neg (by decide)] at HR
      by_cases h24 : (s.size : Int) < 24
      · rw [if_pos (by simp; omega)] at HR
        rcases hcs with ⟨h1, h2⟩ | h1
        all_goals
          go_wp2
          go_ret3
          exact ⟨by rw [← HR.out]; rfl, hw.out⟩
      · rw [if_neg (by simp; omega)] at HR
        have e4 := exl s 4 16 12 rfl
        have e16 := exl s 16 20 4 rfl
        have z4 := exs s 4 16 (by omega)
        have z16 := exs s 16 20 (by omega)
        have H1 := hide fun W => named_any (s.extract 4 16) W z4
        have H2 := hide fun W => rtake_any (s.extract 16 20) W z16
        rw [e4, namedM_eq] at H1
        rw [e16] at H2
        clear e4 e16 z4 z16
        have hq := leN_lt' ((s.data.toList.drop 16).take 4) 4 4294967296 (by simp; omega) (by decide)
        generalize leN ((s.data.toList.drop 16).take 4) = q at *
        generalize trimZ ((s.data.toList.drop 4).take 12) = c at *
        cases hC : okCmd c with
        | false =>
          rw [hC, if_pos rfl] at HR H1
          have he : (txt ([] : List UInt8)).toList.isEmpty = true := tle []
          rcases hcs with ⟨h1, h2⟩ | h1
          · exfalso; omega
          · go_wp2_with (go_at_call 53; refine (H1.out _).mono ?_; rintro e w1 ⟨rfl, rfl⟩)
            go_ret3
            exact ⟨by rw [← HR.out]; rfl, hw.out⟩
        | true =>
          rw [hC, if_neg (by decide)] at HR H1
          have he : (txt c).toList.isEmpty = false := by
            rw [tle]
            have := okCmd_len hC
            cases c with
            | nil => simp at this
            | cons x r => rfl
          by_cases hq2 : (16384 : Int) < q
          · rw [if_pos (by omega)] at HR
            rcases hcs with ⟨h1, h2⟩ | h1
            · exfalso; omega
            · go_wp2_with (first | (go_at_call 53; refine (H1.out _).mono ?_; rintro e w1 ⟨rfl, rfl⟩) | (go_at_call 33; refine (H2.out _).mono ?_; rintro e w2 ⟨rfl, nq, rfl⟩))
              go_ret3
              exact ⟨by rw [← HR.out]; rfl, below_drewN hw.out _⟩
          · rw [if_neg (by omega)] at HR
            rcases hcs with ⟨h1, h2⟩ | h1
            · exfalso; omega
            · go_wp2_with (first | (go_at_call 53; refine (H1.out _).mono ?_; rintro e w1 ⟨rfl, rfl⟩) | (go_at_call 33; refine (H2.out _).mono ?_; rintro e w2 ⟨rfl, nq, rfl⟩))
              go_ret3
              exact ⟨by rw [← HR.out]; rfl, below_drewN hw.out _⟩
end
end Go.Proofs.YtjcfojedahgfpaaDoor
