/- The law's one: an error that is laid, the end that is asked. -/
import Derived.Test.YtnmffnefkokkeaaR
namespace Go.Proofs.Ytnmffnefkokkeaa
open Go.RowKit
theorem Rfr.setNew {b : Nat} {w w2 : World} (h : Rfr b w w2) {g : Nat} (hg : w.heap.size ≤ g) (i : Nat) (v : Value) : Rfr b w (w2.setCell ⟨g, i, none⟩ v) :=
  ⟨h.os, h.tape, h.output, by have := h.size; simpa [World.setCell] using this, fun k hk hb => by
    rw [Below.heap_setCell _ _ _ _ (show k ≠ g by omega)]
    exact h.block k hk hb⟩
theorem Rst.setNew {w : World} {b : Nat} {s : ByteArray} {p e : Int} (h : Rst w b s p e) {g : Nat} (hg : b ≠ g) (i : Nat) (v : Value) : Rst (w.setCell ⟨g, i, none⟩ v) b s p e := by
  unfold Rst
  rw [Below.heap_setCell _ _ _ _ hg]
  exact h
section
variable (b : Nat) (s : ByteArray) (w : World)
set_option maxRecDepth 10000
set_option maxHeartbeats 600000
theorem one_10 (p err n : Int) (x : Nat) (t : ByteArray) (h : Rst w b s p err) :
    Calls Try.prog 25 #[.pointer (some ⟨b, 0, none⟩), .agg #[.string s, .int .i64 p, .int .i64 err], .agg #[.int .i64 10, .int .i64 n, .int .u64 x, .string t]] w fun e w' =>
      e = .returned (.tuple #[.agg #[.string s, .int .i64 p, .int .i64 (if err = 0 then n else err)], .bool true]) ∧ Rst w' b s p (if err = 0 then n else err) ∧ Rfr b w w' := by
  have hlt := h.lt
  have HR := hide fun w h => rFail b s w p err n h
  by_cases he : err = 0
  · have he' : (err == 0) = true := by simp [he]
    rw [if_pos he] at HR ⊢
    clear he
    go_enter Try.func25, Try.ntmps25
    go_wp2_with fail
    refine (HR.out _ (h.below (three_below _ _ _ _))).mono ?_
    rintro e w1 ⟨rfl, g1, q1⟩
    obtain ⟨hA, hB, hC, hF⟩ := q1.three hlt
    obtain ⟨a0, a1, a2, fa0, fa1, fa2⟩ := cells3 hA
    obtain ⟨b1, b2⟩ := cells4 hB
    obtain ⟨c0, c1, c2, fc0, fc1, fc2⟩ := cells3 hC
    have G2 := hide g1
    have F2 := hide hF
    clear hA hB hC hF q1 g1
    go_wp2
    refine bodyPost_ret (v := .tuple #[.agg #[.string s, .int .i64 p, .int .i64 n], .bool true]) ?_ rfl ⟨rfl, (G2.out.setNew (by omega) _ _).set3 (by omega) _ _ _, (F2.out.setNew (by omega) _ _).set3 (by omega) _ _ _⟩
    simp [results, Try.results25, go_sem, *]
  · have he' : (err == 0) = false := by simp [he]
    rw [if_neg he] at HR ⊢
    clear he
    go_enter Try.func25, Try.ntmps25
    go_wp2_with fail
    refine (HR.out _ (h.below (three_below _ _ _ _))).mono ?_
    rintro e w1 ⟨rfl, g1, q1⟩
    obtain ⟨hA, hB, hC, hF⟩ := q1.three hlt
    obtain ⟨a0, a1, a2, fa0, fa1, fa2⟩ := cells3 hA
    obtain ⟨b1, b2⟩ := cells4 hB
    obtain ⟨c0, c1, c2, fc0, fc1, fc2⟩ := cells3 hC
    have G2 := hide g1
    have F2 := hide hF
    clear hA hB hC hF q1 g1
    go_wp2
    refine bodyPost_ret (v := .tuple #[.agg #[.string s, .int .i64 p, .int .i64 err], .bool true]) ?_ rfl ⟨rfl, G2.out.set3 (by omega) _ _ _, F2.out.set3 (by omega) _ _ _⟩
    simp [results, Try.results25, go_sem, *]
theorem one_11 (p err n : Int) (x : Nat) (t : ByteArray) (kind : Int) (hk : ¬ (0 ≤ kind ∧ kind ≤ 10)) (h : Rst w b s p err) (hs : s.size ≤ maxLen) (h0 : 0 ≤ p) (h1 : p ≤ s.size) :
    Calls Try.prog 25 #[.pointer (some ⟨b, 0, none⟩), .agg #[.string s, .int .i64 p, .int .i64 err], .agg #[.int .i64 kind, .int .i64 n, .int .u64 x, .string t]] w fun e w' =>
      e = .returned (.tuple #[.agg #[.string s, .int .i64 p, .int .i64 (rend s p err)], .bool true]) ∧ Rst w' b s p (rend s p err) ∧ Rfr b w w' := by
  have hlt := h.lt
  have HR := hide fun w h => rEnd b s w p err h hs h0 h1
  have HM := hide fun w => mEnd s w p err
  generalize rend s p err = r2 at *
  have k0 : (kind == 0) = false := beq_eq_false_iff_ne.2 (by omega)
  have k1 : (kind == 1) = false := beq_eq_false_iff_ne.2 (by omega)
  have k2 : (kind == 2) = false := beq_eq_false_iff_ne.2 (by omega)
  have k3 : (kind == 3) = false := beq_eq_false_iff_ne.2 (by omega)
  have k4 : (kind == 4) = false := beq_eq_false_iff_ne.2 (by omega)
  have k5 : (kind == 5) = false := beq_eq_false_iff_ne.2 (by omega)
  have k6 : (kind == 6) = false := beq_eq_false_iff_ne.2 (by omega)
  have k7 : (kind == 7) = false := beq_eq_false_iff_ne.2 (by omega)
  have k8 : (kind == 8) = false := beq_eq_false_iff_ne.2 (by omega)
  have k9 : (kind == 9) = false := beq_eq_false_iff_ne.2 (by omega)
  have k10 : (kind == 10) = false := beq_eq_false_iff_ne.2 (by omega)
  clear hk
  go_enter Try.func25, Try.ntmps25
  go_wp2_with fail
  refine (HR.out _ (h.below (three_below _ _ _ _))).mono ?_
  rintro e w1 ⟨rfl, g1, q1⟩
  obtain ⟨hA, hB, hC, hF⟩ := q1.three hlt
  obtain ⟨a0, a1, a2, -, -, -⟩ := cells3 hA
  have HC := hide hC
  have HF := hide hF
  clear hA hB hC hF q1
  go_wp2_with fail
  clear a0 a1 a2
  refine (HM.out _).mono ?_
  rintro e w2 ⟨rfl, hb⟩
  obtain ⟨c0, c1, c2, fc0, fc1, fc2⟩ := cells3 (kept_below HC.out hb)
  have hl2 := lt_of_heap (kept_below HC.out hb)
  have G2 := hide (g1.below hb)
  have F2 := hide (HF.out.trans (Rfr.below hb))
  clear hb g1 HF HC
  go_wp2
  go_region
  all_goals go_wp2
  all_goals
    refine bodyPost_ret (v := .tuple #[.agg #[.string s, .int .i64 p, .int .i64 r2], .bool true]) ?_ rfl ⟨rfl, one_endD G2.out F2.out hlt _ _ _ _⟩
    simp [results, Try.results25, go_sem, *]
end
end Go.Proofs.Ytnmffnefkokkeaa
