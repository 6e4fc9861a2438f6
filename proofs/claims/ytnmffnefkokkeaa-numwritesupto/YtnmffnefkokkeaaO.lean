/- The contracts of the methods of the document's reader. -/
import Derived.Test.YtnmffnefkokkeaaN
namespace Go.Proofs.Ytnmffnefkokkeaa
open Go.RowKit
/-- A block of three cells. -/
theorem cells3 {w1 : World} {g : Nat} {a b c : Value} {t : TypeId} (h : w1.heap[g]? = some (.cells #[a, b, c] t (0, 0))) :
    w1.cell? ⟨g, 0, none⟩ = some a ∧ w1.cell? ⟨g, 1, none⟩ = some b ∧ w1.cell? ⟨g, 2, none⟩ = some c ∧ w1.frozen? ⟨g, 0, none⟩ = false ∧ w1.frozen? ⟨g, 1, none⟩ = false ∧ w1.frozen? ⟨g, 2, none⟩ = false :=
  ⟨by rw [cell_of_row w1 g 0 _ _ _ h]; rfl, by rw [cell_of_row w1 g 1 _ _ _ h]; rfl, by rw [cell_of_row w1 g 2 _ _ _ h]; rfl, frozen_of_row w1 g 0 _ _ h, frozen_of_row w1 g 1 _ _ h, frozen_of_row w1 g 2 _ _ h⟩
theorem two_kept {w w1 : World} {A B : Obj} (hb : Below ((w.alloc A).alloc B).heap.size ((w.alloc A).alloc B) w1) : w1.heap[w.heap.size]? = some A ∧ w1.heap[w.heap.size + 1]? = some B ∧ Below w.heap.size w w1 := by
  have hz : ((w.alloc A).alloc B).heap.size = w.heap.size + 2 := by simp
  exact ⟨(hb.block _ (by omega)).trans (heap_alloc2_old w A B), (hb.block _ (by omega)).trans (heap_alloc2_new w A B), (two_below _ _ _).trans (hb.mono (by omega))⟩
section
variable (s : ByteArray) (w : World)
set_option maxRecDepth 10000
theorem mTake (p err n : Int) (hs : s.size ≤ maxLen) (h0 : 0 ≤ p) (h1 : p ≤ s.size) (hn2 : n ≤ 9223372036854775807) : Calls Try.prog 55 #[.agg #[.string s, .int .i64 p, .int .i64 err], .int .i64 n] w fun e w' => e = .returned (.tuple #[.agg #[.string s, .int .i64 (rtake s p err n).1, .int .i64 (rtake s p err n).2.1], .string (rtake s p err n).2.2]) ∧ Below w.heap.size w w' := by
  unfold maxLen at hs
  by_cases he : err = 0
  · subst he
    by_cases hn : n < 0
    · have hr : rtake s p 0 n = (p, 1, ⟨#[]⟩) := by unfold rtake; rw [if_neg (by simp), if_pos hn]
      rw [hr]
      clear hr
      go_enter Try.func55, Try.ntmps55
      go_wp2
      exact bodyPost_ret (v := .tuple #[.agg #[.string s, .int .i64 p, .int .i64 1], .string ⟨#[]⟩]) (by simp [results, Try.results55, go_sem]) rfl ⟨rfl, two_below _ _ _⟩
    by_cases hc : (s.size : Int) - p < n
    · have hr : rtake s p 0 n = (p, 4, ⟨#[]⟩) := by unfold rtake; rw [if_neg (by simp), if_neg hn, if_pos hc]
      rw [hr]
      clear hr
      go_enter Try.func55, Try.ntmps55
      go_wp2
      exact bodyPost_ret (v := .tuple #[.agg #[.string s, .int .i64 p, .int .i64 4], .string ⟨#[]⟩]) (by simp [results, Try.results55, go_sem]) rfl ⟨rfl, two_below _ _ _⟩
    · have hr : rtake s p 0 n = (p + n, 0, s.extract p.toNat (p + n).toNat) := by unfold rtake; rw [if_neg (by simp), if_neg hn, if_neg hc]
      rw [hr]
      clear hr
      obtain ⟨p, rfl⟩ := Int.eq_ofNat_of_zero_le h0
      obtain ⟨n, rfl⟩ := Int.eq_ofNat_of_zero_le (show 0 ≤ n by omega)
      have hpn : (p : Int) + (n : Int) ≤ s.size := by omega
      have hadd : IntKind.i64.wrap ((p : Int) + (n : Int)) = (p : Int) + (n : Int) := wrap_small _ (by omega) (by omega)
      have hsub : IntKind.i64.wrap ((p : Int) + (n : Int) - (n : Int)) = (p : Int) := by rw [show (p : Int) + n - n = p by omega]; exact wrap_small _ (by omega) (by omega)
      go_enter Try.func55, Try.ntmps55
      go_wp2
      go_region
      all_goals go_wp2
      all_goals
        have e1 : ((p : Int) + (n : Int)).toNat = p + n := by omega
        rw [e1]
        exact bodyPost_ret (v := .tuple #[.agg #[.string s, .int .i64 ((p : Int) + n), .int .i64 0], .string (s.extract p (p + n))]) (by simp [results, Try.results55, go_sem]) rfl ⟨rfl, (two_below _ _ _).drew⟩
  · have hr : rtake s p err n = (p, err, ⟨#[]⟩) := by unfold rtake; rw [if_pos he]
    rw [hr]
    have he' : (err != 0) = true := by simp [he]
    clear he hr
    go_enter Try.func55, Try.ntmps55
    go_wp2
    exact bodyPost_ret (v := .tuple #[.agg #[.string s, .int .i64 p, .int .i64 err], .string ⟨#[]⟩]) (by simp [results, Try.results55, go_sem]) rfl ⟨rfl, two_below _ _ _⟩
theorem mCount (p err most : Int) (hs : s.size ≤ maxLen) (h0 : 0 ≤ p) (h1 : p ≤ s.size) : Calls Try.prog 56 #[.agg #[.string s, .int .i64 p, .int .i64 err], .int .u64 most] w fun e w' => e = .returned (.tuple #[.agg #[.string s, .int .i64 (rcnt s p err most).1, .int .i64 (rcnt s p err most).2.1], .int .u64 (rcnt s p err most).2.2]) ∧ Below w.heap.size w w' := by
  by_cases he : err = 0
  · subst he
    obtain ⟨f1, f2, f3, f4⟩ := takeC_facts s p h0 h1
    have HT := hide fun w => rtakeCount_any s p w hs
    unfold rcnt
    rw [if_neg (by simp)]
    generalize takeC s p = T at *
    obtain ⟨t1, t2, t3⟩ := T
    simp only [tc] at *
    clear f4
    by_cases h3 : t3 = 0
    · subst h3
      rw [if_neg (by simp)]
      by_cases h4 : most < t1
      · rw [if_pos h4]
        clear f3
        go_enter Try.func56, Try.ntmps56
        go_wp2_with fail
        refine (HT.out _).mono ?_
        rintro e w1 ⟨rfl, hb⟩
        obtain ⟨hA, hB, hBel⟩ := two_kept hb
        obtain ⟨a0, a1, a2, fa0, fa1, fa2⟩ := cells3 hA
        obtain ⟨b0, b1, b2, fb0, fb1, fb2⟩ := cells3 hB
        have HB := hide hBel
        clear hb hA hB hBel
        go_wp2
        exact bodyPost_ret (v := .tuple #[.agg #[.string s, .int .i64 p, .int .i64 5], .int .u64 0]) (by simp [results, Try.results56, go_sem, *]) rfl ⟨rfl, by repeat (first | exact HB.out | refine Below.setCell ?_ (by simp) _)⟩
      · rw [if_neg h4]
        clear f3
        go_enter Try.func56, Try.ntmps56
        go_wp2_with fail
        refine (HT.out _).mono ?_
        rintro e w1 ⟨rfl, hb⟩
        obtain ⟨hA, hB, hBel⟩ := two_kept hb
        obtain ⟨a0, a1, a2, fa0, fa1, fa2⟩ := cells3 hA
        obtain ⟨b0, b1, b2, fb0, fb1, fb2⟩ := cells3 hB
        have HB := hide hBel
        clear hb hA hB hBel
        go_wp2
        exact bodyPost_ret (v := .tuple #[.agg #[.string s, .int .i64 t2, .int .i64 0], .int .u64 t1]) (by simp [results, Try.results56, go_sem, *]) rfl ⟨rfl, by repeat (first | exact HB.out | refine Below.setCell ?_ (by simp) _)⟩
    · rw [if_pos h3]
      have ht1 : t1 = 0 := f3 h3
      subst ht1
      have h3' : (t3 != 0) = true := by simp [h3]
      have h3'' : (t3 == 0) = false := by simp [h3]
      clear f3 h3
      go_enter Try.func56, Try.ntmps56
      go_wp2_with fail
      refine (HT.out _).mono ?_
      rintro e w1 ⟨rfl, hb⟩
      obtain ⟨hA, hB, hBel⟩ := two_kept hb
      obtain ⟨a0, a1, a2, fa0, fa1, fa2⟩ := cells3 hA
      obtain ⟨b0, b1, b2, fb0, fb1, fb2⟩ := cells3 hB
      have HB := hide hBel
      clear hb hA hB hBel
      go_wp2
      exact bodyPost_ret (v := .tuple #[.agg #[.string s, .int .i64 p, .int .i64 t3], .int .u64 0]) (by simp [results, Try.results56, go_sem, *]) rfl ⟨rfl, by repeat (first | exact HB.out | refine Below.setCell ?_ (by simp) _)⟩
  · have hr : rcnt s p err most = (p, err, 0) := by unfold rcnt; rw [if_pos he]
    rw [hr]
    have he' : (err != 0) = true := by simp [he]
    clear he hr
    go_enter Try.func56, Try.ntmps56
    go_wp2
    exact bodyPost_ret (v := .tuple #[.agg #[.string s, .int .i64 p, .int .i64 err], .int .u64 0]) (by simp [results, Try.results56, go_sem]) rfl ⟨rfl, two_below _ _ _⟩
end
end Go.Proofs.Ytnmffnefkokkeaa
