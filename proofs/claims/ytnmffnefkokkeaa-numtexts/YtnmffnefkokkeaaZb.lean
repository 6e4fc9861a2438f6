/- Texts to the base 16: the contracts of num's Unhex and the document's Unhex. -/
import Derived.Test.YtnmffnefkokkeaaZa
namespace Go.Proofs.Ytnmffnefkokkeaa
open Go.RowKit
theorem conv_row (w : World) (g : Nat) (l : List UInt8) (n : Nat) (hl : n = l.length) (t : TypeId) (hg : w.heap[g]? = some (.cells (hc l) t (0, 0))) :
    (convert 40 9 (.slice (some ⟨g, 0, none⟩) n n)).run Try.prog w = .ok (.string ⟨l.toArray⟩) w := by
  subst hl
  exact run_convert_bytes_back (P := Try.prog) w 40 9 5 ⟨g, 0, none⟩ l.length l Try.underlying40 Try.underlying5 Try.underlying9 (fun j hj => by
    have hadd : (⟨g, 0, none⟩ : Addr).add j = ⟨g, j, none⟩ := by unfold Addr.add; split <;> simp_all
    rw [hadd, cell_of_row w g j _ t (0, 0) hg]
    simp [hc, cellsL, hj])
theorem good_all (l : List UInt8) (h : good l = l.length) : l.all isD = true := by
  induction l with
  | nil => rfl
  | cons b r ih =>
    unfold good at h ih
    by_cases hb : isD b = true
    · rw [List.takeWhile_cons, if_pos hb, List.length_cons, List.length_cons] at h
      rw [List.all_cons, hb, ih (by omega)]
      rfl
    · rw [List.takeWhile_cons, if_neg hb] at h
      simp at h
/-- What Unhex answers: the text, the place; -1: it is one. -/
def unhexS (s : ByteArray) : ByteArray × Int := if good s.data.toList < s.size then (⟨#[]⟩, good s.data.toList) else if s.size % 2 = 1 then (⟨#[]⟩, s.size) else (⟨(unhexL s.data.toList).toArray⟩, -1)
section
set_option maxRecDepth 10000
set_option maxHeartbeats 400000
theorem unhex_any (s : ByteArray) (hs : s.size ≤ 281474976710656) (w : World) : Calls Try.prog 14 #[.string s] w fun e w' =>
    e = .returned (.tuple #[.string (unhexS s).1, .int .i64 (if (unhexS s).2 < 0 then 0 else (unhexS s).2), .int .i64 (if (unhexS s).2 < 0 then 0 else 10)]) ∧ Below w.heap.size w w' := by
  have HG := hide fun W => goodDigits_any s (by unfold maxLen; omega) W
  have hgl := good_le s.data.toList
  have hsz : s.data.toList.length = s.size := by simp
  by_cases h1 : good s.data.toList < s.size
  · have e : unhexS s = (⟨#[]⟩, (good s.data.toList : Int)) := by unfold unhexS; rw [if_pos h1]
    have e2 : ¬ (good s.data.toList : Int) < 0 := by omega
    simp only [e, if_neg e2]
    clear e
    go_enter Try.func14, Try.ntmps14
    go_wp2_with (go_at_call 50; refine (HG.out _).mono ?_; rintro e w1 ⟨rfl, rfl⟩)
    go_ret3
    exact ⟨rfl, Below.refl _ _⟩
  · have hge : good s.data.toList = s.size := by omega
    by_cases h2 : s.size % 2 = 1
    · have e : unhexS s = (⟨#[]⟩, (s.size : Int)) := by unfold unhexS; rw [if_neg h1, if_pos h2]
      have e2 : ¬ (s.size : Int) < 0 := by omega
      simp only [e, if_neg e2]
      clear e
      rw [hge] at HG
      go_enter Try.func14, Try.ntmps14
      go_wp2_with (go_at_call 50; refine (HG.out _).mono ?_; rintro e w1 ⟨rfl, rfl⟩)
      go_ret3
      exact ⟨rfl, Below.refl _ _⟩
    · have e : unhexS s = (⟨(unhexL s.data.toList).toArray⟩, -1) := by unfold unhexS; rw [if_neg h1, if_neg h2]
      have HP := hide fun W => pairs_any s hs (good_all _ (by rw [hge, hsz])) W
      have hul := unhexL_len s.data.toList
      rw [hsz] at hul
      simp only [e, if_pos (show (-1 : Int) < 0 by decide)]
      clear e
      rw [hge] at HG
      go_enter Try.func14, Try.ntmps14
      go_wp2_with (first | (go_at_call 50; refine (HG.out _).mono ?_; rintro e w1 ⟨rfl, rfl⟩) | (go_at_call 51; refine (HP.out _).mono ?_; rintro e w2 ⟨rfl, hrow, hbel⟩; have hcv := conv_row w2 _ _ _ hul.symm 5 hrow))
      go_ret3
      exact ⟨rfl, hbel⟩
end
end Go.Proofs.Ytnmffnefkokkeaa
