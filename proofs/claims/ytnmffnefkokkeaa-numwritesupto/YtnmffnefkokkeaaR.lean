/- The law's one, act by act: numbers, counts, bytes, texts, yes or no. -/
import Derived.Test.YtnmffnefkokkeaaQ
namespace Go.Proofs.Ytnmffnefkokkeaa
open Go.RowKit
theorem getL_rev (s : ByteArray) (p err : Int) (h0 : 0 ≤ p) : getL (rtake s p err 2).2.2.data.toList.reverse = swap (getL (rtake s p err 2).2.2.data.toList) := by
  by_cases he : (rtake s p err 2).2.1 = 0
  · obtain ⟨-, -, -, h5, h6⟩ := rtake_ok s p err 2 he
    have hz : (rtake s p err 2).2.2.size = 2 := by rw [h6]; simp; omega
    generalize (rtake s p err 2).2.2 = rb at *
    have hl : rb.data.toList.length = 2 := by simpa using hz
    obtain ⟨x, y, e⟩ : ∃ x y, rb.data.toList = [x, y] := by
      match hq : rb.data.toList, hl with
      | [x, y], _ => exact ⟨x, y, rfl⟩
    rw [e]
    have hx := x.toNat_lt
    have hy := y.toNat_lt
    simp only [List.reverse_cons, List.reverse_nil, List.nil_append, List.cons_append, getL, swap]
    omega
  · rw [(rtake_err s p err 2 he).2]; rfl
section
variable (b : Nat) (s : ByteArray) (w : World)
set_option maxRecDepth 10000
set_option maxHeartbeats 600000
theorem one_1 (p err n : Int) (x : Nat) (t : ByteArray) (h : Rst w b s p err) (hs : s.size ≤ maxLen) (h0 : 0 ≤ p) (h1 : p ≤ s.size) :
    Calls Try.prog 25 #[.pointer (some ⟨b, 0, none⟩), .agg #[.string s, .int .i64 p, .int .i64 err], .agg #[.int .i64 1, .int .i64 n, .int .u64 x, .string t]] w fun e w' =>
      e = .returned (.tuple #[.agg #[.string s, .int .i64 (rtake s p err 2).1, .int .i64 (rtake s p err 2).2.1], .bool true]) ∧ Rst w' b s (rtake s p err 2).1 (rtake s p err 2).2.1 ∧ Rfr b w w' := by
  have hlt := h.lt
  have hz := rtake_size s p err 2 2 rfl h0
  have HR := hide fun w h => rU16 b s w p err h hs h0 h1
  have HM := hide fun w => mTake s w p err 2 hs h0 h1 (by decide)
  generalize rtake s p err 2 = R at *
  obtain ⟨r1, r2, rb⟩ := R
  dsimp only at *
  have HG := hide fun w => get_any rb w (by omega)
  have hwr : IntKind.u64.wrap (getL rb.data.toList : Int) = (getL rb.data.toList : Int) := by
    have := getL_lt' rb.data.toList 8 18446744073709551616 (by simp; omega) (by decide)
    exact wrapu _ (by omega) (by omega)
  generalize getL rb.data.toList = m at *
  go_enter Try.func25, Try.ntmps25
  go_wp2_with fail
  refine (HR.out _ (h.below (three_below _ _ _ _))).mono ?_
  rintro e w1 ⟨rfl, g1, q1⟩
  obtain ⟨hA, hB, hC, hF⟩ := q1.three hlt
  obtain ⟨a0, a1, a2, -, -, -⟩ := cells3 hA
  obtain ⟨b1, b2⟩ := cells4 hB
  have HC := hide hC
  have HF := hide hF
  clear hA hB hC hF q1
  go_wp2_with fail
  clear a0 a1 a2 b1 b2
  refine (HM.out _).mono ?_
  rintro e w2 ⟨rfl, hb⟩
  obtain ⟨c0, c1, c2, fc0, fc1, fc2⟩ := cells3 (kept_below HC.out hb)
  have hl2 := lt_of_heap (kept_below HC.out hb)
  have G2 := hide (g1.below hb)
  have F2 := hide (HF.out.trans (Rfr.below hb))
  clear hb g1 HF HC
  go_wp2
  go_region_with (go_at_call 47; refine (HG.out _).mono ?_; rintro e w3 ⟨rfl, rfl⟩)
  all_goals go_wp2
  all_goals
    refine bodyPost_ret (v := .tuple #[.agg #[.string s, .int .i64 r1, .int .i64 r2], .bool true]) ?_ rfl ⟨rfl, one_endD G2.out F2.out hlt _ _ _ _⟩
    simp [results, Try.results25, go_sem, *]
theorem one_2 (p err n : Int) (x : Nat) (t : ByteArray) (h : Rst w b s p err) (hs : s.size ≤ maxLen) (h0 : 0 ≤ p) (h1 : p ≤ s.size) :
    Calls Try.prog 25 #[.pointer (some ⟨b, 0, none⟩), .agg #[.string s, .int .i64 p, .int .i64 err], .agg #[.int .i64 2, .int .i64 n, .int .u64 x, .string t]] w fun e w' =>
      e = .returned (.tuple #[.agg #[.string s, .int .i64 (rtake s p err 4).1, .int .i64 (rtake s p err 4).2.1], .bool true]) ∧ Rst w' b s (rtake s p err 4).1 (rtake s p err 4).2.1 ∧ Rfr b w w' := by
  have hlt := h.lt
  have hz := rtake_size s p err 4 4 rfl h0
  have HR := hide fun w h => rU32 b s w p err h hs h0 h1
  have HM := hide fun w => mTake s w p err 4 hs h0 h1 (by decide)
  generalize rtake s p err 4 = R at *
  obtain ⟨r1, r2, rb⟩ := R
  dsimp only at *
  have HG := hide fun w => get_any rb w (by omega)
  have hwr : IntKind.u64.wrap (getL rb.data.toList : Int) = (getL rb.data.toList : Int) := by
    have := getL_lt' rb.data.toList 8 18446744073709551616 (by simp; omega) (by decide)
    exact wrapu _ (by omega) (by omega)
  generalize getL rb.data.toList = m at *
  go_enter Try.func25, Try.ntmps25
  go_wp2_with fail
  refine (HR.out _ (h.below (three_below _ _ _ _))).mono ?_
  rintro e w1 ⟨rfl, g1, q1⟩
  obtain ⟨hA, hB, hC, hF⟩ := q1.three hlt
  obtain ⟨a0, a1, a2, -, -, -⟩ := cells3 hA
  obtain ⟨b1, b2⟩ := cells4 hB
  have HC := hide hC
  have HF := hide hF
  clear hA hB hC hF q1
  go_wp2_with fail
  clear a0 a1 a2 b1 b2
  refine (HM.out _).mono ?_
  rintro e w2 ⟨rfl, hb⟩
  obtain ⟨c0, c1, c2, fc0, fc1, fc2⟩ := cells3 (kept_below HC.out hb)
  have hl2 := lt_of_heap (kept_below HC.out hb)
  have G2 := hide (g1.below hb)
  have F2 := hide (HF.out.trans (Rfr.below hb))
  clear hb g1 HF HC
  go_wp2
  go_region_with (go_at_call 47; refine (HG.out _).mono ?_; rintro e w3 ⟨rfl, rfl⟩)
  all_goals go_wp2
  all_goals
    refine bodyPost_ret (v := .tuple #[.agg #[.string s, .int .i64 r1, .int .i64 r2], .bool true]) ?_ rfl ⟨rfl, one_endD G2.out F2.out hlt _ _ _ _⟩
    simp [results, Try.results25, go_sem, *]
theorem one_3 (p err n : Int) (x : Nat) (t : ByteArray) (h : Rst w b s p err) (hs : s.size ≤ maxLen) (h0 : 0 ≤ p) (h1 : p ≤ s.size) :
    Calls Try.prog 25 #[.pointer (some ⟨b, 0, none⟩), .agg #[.string s, .int .i64 p, .int .i64 err], .agg #[.int .i64 3, .int .i64 n, .int .u64 x, .string t]] w fun e w' =>
      e = .returned (.tuple #[.agg #[.string s, .int .i64 (rtake s p err 8).1, .int .i64 (rtake s p err 8).2.1], .bool true]) ∧ Rst w' b s (rtake s p err 8).1 (rtake s p err 8).2.1 ∧ Rfr b w w' := by
  have hlt := h.lt
  have hz := rtake_size s p err 8 8 rfl h0
  have HR := hide fun w h => rU64 b s w p err h hs h0 h1
  have HM := hide fun w => mTake s w p err 8 hs h0 h1 (by decide)
  generalize rtake s p err 8 = R at *
  obtain ⟨r1, r2, rb⟩ := R
  dsimp only at *
  have HG := hide fun w => get_any rb w (by omega)
  have hwr : IntKind.u64.wrap (getL rb.data.toList : Int) = (getL rb.data.toList : Int) := by
    have := getL_lt' rb.data.toList 8 18446744073709551616 (by simp; omega) (by decide)
    exact wrapu _ (by omega) (by omega)
  generalize getL rb.data.toList = m at *
  go_enter Try.func25, Try.ntmps25
  go_wp2_with fail
  refine (HR.out _ (h.below (three_below _ _ _ _))).mono ?_
  rintro e w1 ⟨rfl, g1, q1⟩
  obtain ⟨hA, hB, hC, hF⟩ := q1.three hlt
  obtain ⟨a0, a1, a2, -, -, -⟩ := cells3 hA
  obtain ⟨b1, b2⟩ := cells4 hB
  have HC := hide hC
  have HF := hide hF
  clear hA hB hC hF q1
  go_wp2_with fail
  clear a0 a1 a2 b1 b2
  refine (HM.out _).mono ?_
  rintro e w2 ⟨rfl, hb⟩
  obtain ⟨c0, c1, c2, fc0, fc1, fc2⟩ := cells3 (kept_below HC.out hb)
  have hl2 := lt_of_heap (kept_below HC.out hb)
  have G2 := hide (g1.below hb)
  have F2 := hide (HF.out.trans (Rfr.below hb))
  clear hb g1 HF HC
  go_wp2
  go_region_with (go_at_call 47; refine (HG.out _).mono ?_; rintro e w3 ⟨rfl, rfl⟩)
  all_goals go_wp2
  all_goals
    refine bodyPost_ret (v := .tuple #[.agg #[.string s, .int .i64 r1, .int .i64 r2], .bool true]) ?_ rfl ⟨rfl, one_endD G2.out F2.out hlt _ _ _ _⟩
    simp [results, Try.results25, go_sem, *]
theorem one_4 (p err n : Int) (x : Nat) (t : ByteArray) (h : Rst w b s p err) (hs : s.size ≤ maxLen) (h0 : 0 ≤ p) (h1 : p ≤ s.size) :
    Calls Try.prog 25 #[.pointer (some ⟨b, 0, none⟩), .agg #[.string s, .int .i64 p, .int .i64 err], .agg #[.int .i64 4, .int .i64 n, .int .u64 x, .string t]] w fun e w' =>
      e = .returned (.tuple #[.agg #[.string s, .int .i64 (rtake s p err 2).1, .int .i64 (rtake s p err 2).2.1], .bool true]) ∧ Rst w' b s (rtake s p err 2).1 (rtake s p err 2).2.1 ∧ Rfr b w w' := by
  have hlt := h.lt
  have hz := rtake_size s p err 2 2 rfl h0
  have HR := hide fun w h => rBig b s w p err h hs h0 h1
  have HM := hide fun w => mTake s w p err 2 hs h0 h1 (by decide)
  have hrev := getL_rev s p err h0
  generalize rtake s p err 2 = R at *
  obtain ⟨r1, r2, rb⟩ := R
  dsimp only at *
  have HU := hide fun w => turned_any rb (by unfold maxLen; omega) w
  have hzr : (⟨rb.data.toList.reverse.toArray⟩ : ByteArray).size ≤ 8 := by
    show rb.data.toList.reverse.toArray.size ≤ 8
    simp; omega
  have HG := hide fun w => get_any ⟨rb.data.toList.reverse.toArray⟩ w hzr
  have hsw : swap (getL rb.data.toList) < 65536 := by
    have := getL_lt' rb.data.toList 2 65536 (by simp; omega) (by decide)
    unfold swap; omega
  have HG2 : Hid (∀ w, Calls Try.prog 47 #[.string ⟨rb.data.toList.reverse.toArray⟩] w fun e w' => e = .returned (.int .u64 (swap (getL rb.data.toList))) ∧ w' = w) := by
    intro w
    have := HG.out w
    rw [show (⟨rb.data.toList.reverse.toArray⟩ : ByteArray).data.toList = rb.data.toList.reverse from rfl, hrev] at this
    exact this
  have hwr : IntKind.u64.wrap (swap (getL rb.data.toList) : Int) = (swap (getL rb.data.toList) : Int) := wrapu _ (by omega) (by omega)
  clear hrev HG hzr
  generalize swap (getL rb.data.toList) = m at *
  go_enter Try.func25, Try.ntmps25
  go_wp2_with fail
  refine (HR.out _ (h.below (three_below _ _ _ _))).mono ?_
  rintro e w1 ⟨rfl, g1, q1⟩
  obtain ⟨hA, hB, hC, hF⟩ := q1.three hlt
  obtain ⟨a0, a1, a2, -, -, -⟩ := cells3 hA
  obtain ⟨b1, b2⟩ := cells4 hB
  have HC := hide hC
  have HF := hide hF
  clear hA hB hC hF q1
  go_wp2_with fail
  clear a0 a1 a2 b1 b2
  refine (HM.out _).mono ?_
  rintro e w2 ⟨rfl, hb⟩
  obtain ⟨c0, c1, c2, fc0, fc1, fc2⟩ := cells3 (kept_below HC.out hb)
  have hl2 := lt_of_heap (kept_below HC.out hb)
  have G2 := hide (g1.below hb)
  have F2 := hide (HF.out.trans (Rfr.below hb))
  clear hb g1 HF HC
  go_wp2
  go_region_with (first | (go_at_call 21; refine (HU.out _).mono ?_; rintro e w3 ⟨rfl, rfl⟩) | (go_at_call 47; refine (HG2.out _).mono ?_; rintro e w3 ⟨rfl, rfl⟩))
  all_goals go_wp2
  all_goals
    refine bodyPost_ret (v := .tuple #[.agg #[.string s, .int .i64 r1, .int .i64 r2], .bool true]) ?_ rfl ⟨rfl, one_endD G2.out F2.out hlt _ _ _ _⟩
    simp [results, Try.results25, go_sem, *]
theorem one_5 (p err n : Int) (x : Nat) (t : ByteArray) (h : Rst w b s p err) (hs : s.size ≤ maxLen) (h0 : 0 ≤ p) (h1 : p ≤ s.size) :
    Calls Try.prog 25 #[.pointer (some ⟨b, 0, none⟩), .agg #[.string s, .int .i64 p, .int .i64 err], .agg #[.int .i64 5, .int .i64 n, .int .u64 x, .string t]] w fun e w' =>
      e = .returned (.tuple #[.agg #[.string s, .int .i64 (rcnt s p err x).1, .int .i64 (rcnt s p err x).2.1], .bool true]) ∧ Rst w' b s (rcnt s p err x).1 (rcnt s p err x).2.1 ∧ Rfr b w w' := by
  have hlt := h.lt
  have HR := hide fun w h => rCount b s w p err x h hs h0 h1 (by omega)
  have HM := hide fun w => mCount s w p err x hs h0 h1
  generalize rcnt s p err x = R at *
  obtain ⟨r1, r2, r3⟩ := R
  dsimp only at *
  go_enter Try.func25, Try.ntmps25
  go_wp2_with fail
  refine (HR.out _ (h.below (three_below _ _ _ _))).mono ?_
  rintro e w1 ⟨rfl, g1, q1⟩
  obtain ⟨hA, hB, hC, hF⟩ := q1.three hlt
  obtain ⟨a0, a1, a2, -, -, -⟩ := cells3 hA
  obtain ⟨b1, b2⟩ := cells4 hB
  have HC := hide hC
  have HF := hide hF
  clear hA hB hC hF q1
  go_wp2_with fail
  clear a0 a1 a2 b1 b2
  refine (HM.out _).mono ?_
  rintro e w2 ⟨rfl, hb⟩
  obtain ⟨c0, c1, c2, fc0, fc1, fc2⟩ := cells3 (kept_below HC.out hb)
  have hl2 := lt_of_heap (kept_below HC.out hb)
  have G2 := hide (g1.below hb)
  have F2 := hide (HF.out.trans (Rfr.below hb))
  clear hb g1 HF HC
  go_wp2
  refine bodyPost_ret (v := .tuple #[.agg #[.string s, .int .i64 r1, .int .i64 r2], .bool true]) ?_ rfl ⟨rfl, one_end G2.out F2.out hlt _ _ _ _⟩
  simp [results, Try.results25, go_sem, *]
theorem one_6 (p err n : Int) (x : Nat) (t : ByteArray) (hn : n ≤ 9223372036854775807) (h : Rst w b s p err) (hs : s.size ≤ maxLen) (h0 : 0 ≤ p) (h1 : p ≤ s.size) :
    Calls Try.prog 25 #[.pointer (some ⟨b, 0, none⟩), .agg #[.string s, .int .i64 p, .int .i64 err], .agg #[.int .i64 6, .int .i64 n, .int .u64 x, .string t]] w fun e w' =>
      e = .returned (.tuple #[.agg #[.string s, .int .i64 (rtake s p err n).1, .int .i64 (rtake s p err n).2.1], .bool true]) ∧ Rst w' b s (rtake s p err n).1 (rtake s p err n).2.1 ∧ Rfr b w w' := by
  have hlt := h.lt
  have HR := hide fun w h => rBytes b s w p err n h hs h0 h1 hn
  have HM := hide fun w => mTake s w p err n hs h0 h1 hn
  generalize rtake s p err n = R at *
  obtain ⟨r1, r2, r3⟩ := R
  dsimp only at *
  go_enter Try.func25, Try.ntmps25
  go_wp2_with fail
  refine (HR.out _ (h.below (three_below _ _ _ _))).mono ?_
  rintro e w1 ⟨rfl, g1, q1⟩
  obtain ⟨hA, hB, hC, hF⟩ := q1.three hlt
  obtain ⟨a0, a1, a2, -, -, -⟩ := cells3 hA
  obtain ⟨b1, b2⟩ := cells4 hB
  have HC := hide hC
  have HF := hide hF
  clear hA hB hC hF q1
  go_wp2_with fail
  clear a0 a1 a2 b1 b2
  refine (HM.out _).mono ?_
  rintro e w2 ⟨rfl, hb⟩
  obtain ⟨c0, c1, c2, fc0, fc1, fc2⟩ := cells3 (kept_below HC.out hb)
  have hl2 := lt_of_heap (kept_below HC.out hb)
  have G2 := hide (g1.below hb)
  have F2 := hide (HF.out.trans (Rfr.below hb))
  clear hb g1 HF HC
  go_wp2
  refine bodyPost_ret (v := .tuple #[.agg #[.string s, .int .i64 r1, .int .i64 r2], .bool true]) ?_ rfl ⟨rfl, one_end G2.out F2.out hlt _ _ _ _⟩
  simp [results, Try.results25, go_sem, *]
theorem one_7 (p err n : Int) (x : Nat) (t : ByteArray) (hn : n ≤ 9223372036854775807) (h : Rst w b s p err) (hs : s.size ≤ maxLen) (h0 : 0 ≤ p) (h1 : p ≤ s.size) :
    Calls Try.prog 25 #[.pointer (some ⟨b, 0, none⟩), .agg #[.string s, .int .i64 p, .int .i64 err], .agg #[.int .i64 7, .int .i64 n, .int .u64 x, .string t]] w fun e w' =>
      e = .returned (.tuple #[.agg #[.string s, .int .i64 (rstr s p err n).1, .int .i64 (rstr s p err n).2.1], .bool true]) ∧ Rst w' b s (rstr s p err n).1 (rstr s p err n).2.1 ∧ Rfr b w w' := by
  have hlt := h.lt
  have HR := hide fun w h => rString b s w p err n h hs h0 h1 hn
  have HM := hide fun w => mString s w p err n hs h0 h1 hn
  generalize rstr s p err n = R at *
  obtain ⟨r1, r2, r3⟩ := R
  dsimp only at *
  go_enter Try.func25, Try.ntmps25
  go_wp2_with fail
  refine (HR.out _ (h.below (three_below _ _ _ _))).mono ?_
  rintro e w1 ⟨rfl, g1, q1⟩
  obtain ⟨hA, hB, hC, hF⟩ := q1.three hlt
  obtain ⟨a0, a1, a2, -, -, -⟩ := cells3 hA
  obtain ⟨b1, b2⟩ := cells4 hB
  have HC := hide hC
  have HF := hide hF
  clear hA hB hC hF q1
  go_wp2_with fail
  clear a0 a1 a2 b1 b2
  refine (HM.out _).mono ?_
  rintro e w2 ⟨rfl, hb⟩
  obtain ⟨c0, c1, c2, fc0, fc1, fc2⟩ := cells3 (kept_below HC.out hb)
  have hl2 := lt_of_heap (kept_below HC.out hb)
  have G2 := hide (g1.below hb)
  have F2 := hide (HF.out.trans (Rfr.below hb))
  clear hb g1 HF HC
  go_wp2
  refine bodyPost_ret (v := .tuple #[.agg #[.string s, .int .i64 r1, .int .i64 r2], .bool true]) ?_ rfl ⟨rfl, one_end G2.out F2.out hlt _ _ _ _⟩
  simp [results, Try.results25, go_sem, *]
theorem one_9 (p err n : Int) (x : Nat) (t : ByteArray) (h : Rst w b s p err) (hs : s.size ≤ maxLen) (h0 : 0 ≤ p) (h1 : p ≤ s.size) :
    Calls Try.prog 25 #[.pointer (some ⟨b, 0, none⟩), .agg #[.string s, .int .i64 p, .int .i64 err], .agg #[.int .i64 9, .int .i64 n, .int .u64 x, .string t]] w fun e w' =>
      e = .returned (.tuple #[.agg #[.string s, .int .i64 (rbool s p err).1, .int .i64 (rbool s p err).2.1], .bool true]) ∧ Rst w' b s (rbool s p err).1 (rbool s p err).2.1 ∧ Rfr b w w' := by
  have hlt := h.lt
  have HR := hide fun w h => rBool b s w p err h hs h0 h1
  have HM := hide fun w => mBool s w p err hs h0 h1
  generalize rbool s p err = R at *
  obtain ⟨r1, r2, r3⟩ := R
  dsimp only at *
  go_enter Try.func25, Try.ntmps25
  go_wp2_with fail
  refine (HR.out _ (h.below (three_below _ _ _ _))).mono ?_
  rintro e w1 ⟨rfl, g1, q1⟩
  obtain ⟨hA, hB, hC, hF⟩ := q1.three hlt
  obtain ⟨a0, a1, a2, -, -, -⟩ := cells3 hA
  obtain ⟨b1, b2⟩ := cells4 hB
  have HC := hide hC
  have HF := hide hF
  clear hA hB hC hF q1
  go_wp2_with fail
  clear a0 a1 a2 b1 b2
  refine (HM.out _).mono ?_
  rintro e w2 ⟨rfl, hb⟩
  obtain ⟨c0, c1, c2, fc0, fc1, fc2⟩ := cells3 (kept_below HC.out hb)
  have hl2 := lt_of_heap (kept_below HC.out hb)
  have G2 := hide (g1.below hb)
  have F2 := hide (HF.out.trans (Rfr.below hb))
  clear hb g1 HF HC
  go_wp2
  refine bodyPost_ret (v := .tuple #[.agg #[.string s, .int .i64 r1, .int .i64 r2], .bool true]) ?_ rfl ⟨rfl, one_end G2.out F2.out hlt _ _ _ _⟩
  simp [results, Try.results25, go_sem, *]
end
end Go.Proofs.Ytnmffnefkokkeaa
