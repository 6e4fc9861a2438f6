/- The law's one at a hash. -/
import Derived.Test.YtnmffnefkokkeaaS
namespace Go.Proofs.Ytnmffnefkokkeaa
open Go.RowKit
section
variable (b : Nat) (s : ByteArray) (w : World)
set_option maxRecDepth 10000
set_option maxHeartbeats 1000000
theorem heap_far {w2 : World} {g k : Nat} {X C : Obj} (hX : w2.heap[g]? = some X) (hk : g ≠ k) (a c d : Value) :
    (w2.alloc C).drew.heap[g]? = some X ∧ ((((w2.setCell ⟨k, 0, none⟩ a).setCell ⟨k, 1, none⟩ c).setCell ⟨k, 2, none⟩ d).alloc C).drew.heap[g]? = some X := by
  have hlt := lt_of_heap hX
  refine ⟨(Below.heap_alloc _ _ _ hlt).trans hX, ?_⟩
  refine (Below.heap_alloc _ _ _ (by simpa [World.setCell] using hlt)).trans ?_
  rw [Below.heap_setCell _ _ _ _ hk, Below.heap_setCell _ _ _ _ hk, Below.heap_setCell _ _ _ _ hk]
  exact hX
theorem one_8ok (p err n r1 : Int) (x : Nat) (t rb : ByteArray) (hz : rb.data.toList.length = 32) (h : Rst w b s p err)
    (HR : Hid (∀ w, Rst w b s p err → Calls Try.prog 43 #[.pointer (some ⟨b, 0, none⟩)] w fun e w' => e = .returned (.agg (hc rb.data.toList)) ∧ Rst w' b s r1 0 ∧ Rfr b w w'))
    (HM : Hid (∀ w, Calls Try.prog 55 #[.agg #[.string s, .int .i64 p, .int .i64 err], .int .i64 32] w fun e w' => e = .returned (.tuple #[.agg #[.string s, .int .i64 r1, .int .i64 0], .string rb]) ∧ Below w.heap.size w w')) :
    Calls Try.prog 25 #[.pointer (some ⟨b, 0, none⟩), .agg #[.string s, .int .i64 p, .int .i64 err], .agg #[.int .i64 8, .int .i64 n, .int .u64 x, .string t]] w fun e w' =>
      e = .returned (.tuple #[.agg #[.string s, .int .i64 r1, .int .i64 0], .bool true]) ∧ Rst w' b s r1 0 ∧ Rfr b w w' := by
  have hlt := h.lt
  go_enter Try.func25, Try.ntmps25
  go_wp2_with fail
  refine (HR.out _ (h.below (three_below _ _ _ _))).mono ?_
  rintro e w1 ⟨rfl, g1, q1⟩
  obtain ⟨hA, hB, hC, hF⟩ := q1.three hlt
  obtain ⟨a0, a1, a2, -, -, -⟩ := cells3 hA
  have hl0 := lt_of_heap hA
  have HC := hide hC
  have HF := hide hF
  clear hA hB hC hF q1
  go_wp2_with (first | refine wpList_alloc33 rfl rfl ?_ | (refine wpList_store33_new rfl _ _ rfl _ rfl _ hz rfl rfl zeros_len ?_))
  clear a0 a1 a2
  refine (HM.out _).mono ?_
  rintro e w2 ⟨rfl, hb⟩
  have hl1 := lt_of_heap HC.out
  have hX := new_alloc hb
  obtain ⟨c0, c1, c2, fc0, fc1, fc2⟩ := cells3 (kept_alloc HC.out hb)
  have hl2 := lt_of_heap (kept_alloc HC.out hb)
  have hl3 := lt_of_heap hX
  have G2 := hide ((g1.alloc _).below hb)
  have F2 := hide ((HF.out.alloc _).trans (Rfr.below hb))
  have hrb : (⟨rb.data.toList.toArray⟩ : ByteArray) = rb := by cases rb; simp
  have hX2 := heap_far (C := (.cells #[.string s, .int .i64 r1, .int .i64 0] 50)) hX (show w1.heap.size ≠ w.heap.size + 1 + 1 by omega) (.string s) (.int .i64 r1) (.int .i64 0)
  have cv1 : (convert 40 9 (.slice (some ⟨w1.heap.size, 0, none⟩) 32 32)).run Try.prog ((w2.alloc (.cells #[.string s, .int .i64 r1, .int .i64 0] 50)).drew) = .ok (.string rb) ((w2.alloc (.cells #[.string s, .int .i64 r1, .int .i64 0] 50)).drew) := by
    have := conv33 _ w1.heap.size rb.data.toList hz 33 hX2.1
    rwa [hrb] at this
  have cv2 : (convert 40 9 (.slice (some ⟨w1.heap.size, 0, none⟩) 32 32)).run Try.prog (((((w2.setCell ⟨w.heap.size + 1 + 1, 0, none⟩ (.string s)).setCell ⟨w.heap.size + 1 + 1, 1, none⟩ (.int .i64 r1)).setCell ⟨w.heap.size + 1 + 1, 2, none⟩ (.int .i64 0)).alloc (.cells #[.string s, .int .i64 r1, .int .i64 0] 50)).drew) = .ok (.string rb) (((((w2.setCell ⟨w.heap.size + 1 + 1, 0, none⟩ (.string s)).setCell ⟨w.heap.size + 1 + 1, 1, none⟩ (.int .i64 r1)).setCell ⟨w.heap.size + 1 + 1, 2, none⟩ (.int .i64 0)).alloc (.cells #[.string s, .int .i64 r1, .int .i64 0] 50)).drew) := by
    have := conv33 _ w1.heap.size rb.data.toList hz 33 hX2.2
    rwa [hrb] at this
  clear hb g1 HF HC hX hX2 hrb
  go_wp2
  go_region
  all_goals go_wp2
  all_goals
    refine bodyPost_ret (v := .tuple #[.agg #[.string s, .int .i64 r1, .int .i64 0], .bool true]) ?_ rfl ⟨rfl, one_endD G2.out F2.out hlt _ _ _ _⟩
    simp [results, Try.results25, go_sem, *]
/-- The load of a hash, under a name that the walk does not open. -/
def ld33 (x : Value) : Sem Value := Instr.loadAt 33 x
theorem ld33_eq (x : Value) : Instr.loadAt 33 x = ld33 x := rfl
attribute [local go_sem ↓] ld33_eq
theorem ldz {W : World} {g : Nat} (h : W.heap[g]? = some (.cells (hc zeros) 33 (0, 0))) : (ld33 (.pointer (some ⟨g, 0, none⟩))).run Try.prog W = .ok (.agg (hc zeros)) W := by
  simp only [ld33, Instr.loadAt, Instr.sureAddr, Sem.run_bind, Sem.run_pure, Result.andThen]
  exact run_loadVar_row W g 33 33 (hc zeros) (0, 0) _ h Try.underlying33 rfl (by rw [info33, hc_size, zeros_len])
theorem eqz2 (W : World) : (Op.equalIn 10000 33 (.agg #[.int .u8 0, .int .u8 0, .int .u8 0, .int .u8 0, .int .u8 0, .int .u8 0, .int .u8 0, .int .u8 0, .int .u8 0, .int .u8 0, .int .u8 0, .int .u8 0, .int .u8 0, .int .u8 0, .int .u8 0, .int .u8 0, .int .u8 0, .int .u8 0, .int .u8 0, .int .u8 0, .int .u8 0, .int .u8 0, .int .u8 0, .int .u8 0, .int .u8 0, .int .u8 0, .int .u8 0, .int .u8 0, .int .u8 0, .int .u8 0, .int .u8 0, .int .u8 0]) (.agg #[.int .u8 0, .int .u8 0, .int .u8 0, .int .u8 0, .int .u8 0, .int .u8 0, .int .u8 0, .int .u8 0, .int .u8 0, .int .u8 0, .int .u8 0, .int .u8 0, .int .u8 0, .int .u8 0, .int .u8 0, .int .u8 0, .int .u8 0, .int .u8 0, .int .u8 0, .int .u8 0, .int .u8 0, .int .u8 0, .int .u8 0, .int .u8 0, .int .u8 0, .int .u8 0, .int .u8 0, .int .u8 0, .int .u8 0, .int .u8 0, .int .u8 0, .int .u8 0])).run Try.prog W = .ok true W := eqz W
theorem one_8no (p err n r1 r2 : Int) (x : Nat) (t : ByteArray) (hr2 : (r2 != 0) = true) (hr3 : (r2 == 0) = false) (h : Rst w b s p err)
    (HR : Hid (∀ w, Rst w b s p err → Calls Try.prog 43 #[.pointer (some ⟨b, 0, none⟩)] w fun e w' => e = .returned (.agg (hc zeros)) ∧ Rst w' b s r1 r2 ∧ Rfr b w w'))
    (HM : Hid (∀ w, Calls Try.prog 55 #[.agg #[.string s, .int .i64 p, .int .i64 err], .int .i64 32] w fun e w' => e = .returned (.tuple #[.agg #[.string s, .int .i64 r1, .int .i64 r2], .string ⟨#[]⟩]) ∧ Below w.heap.size w w')) :
    Calls Try.prog 25 #[.pointer (some ⟨b, 0, none⟩), .agg #[.string s, .int .i64 p, .int .i64 err], .agg #[.int .i64 8, .int .i64 n, .int .u64 x, .string t]] w fun e w' =>
      e = .returned (.tuple #[.agg #[.string s, .int .i64 r1, .int .i64 r2], .bool true]) ∧ Rst w' b s r1 r2 ∧ Rfr b w w' := by
  have hlt := h.lt
  go_enter Try.func25, Try.ntmps25
  go_wp2_with fail
  refine (HR.out _ (h.below (three_below _ _ _ _))).mono ?_
  rintro e w1 ⟨rfl, g1, q1⟩
  obtain ⟨hA, hB, hC, hF⟩ := q1.three hlt
  obtain ⟨a0, a1, a2, -, -, -⟩ := cells3 hA
  have hl0 := lt_of_heap hA
  have HC := hide hC
  have HF := hide hF
  clear hA hB hC hF q1
  go_wp2_with (first | refine wpList_alloc33 rfl rfl ?_ | (refine wpList_store33_new rfl _ _ rfl _ rfl _ zeros_len rfl rfl zeros_len ?_))
  clear a0 a1 a2
  refine (HM.out _).mono ?_
  rintro e w2 ⟨rfl, hb⟩
  have hl1 := lt_of_heap HC.out
  have hX := new_alloc hb
  obtain ⟨c0, c1, c2, fc0, fc1, fc2⟩ := cells3 (kept_alloc HC.out hb)
  have hl2 := lt_of_heap (kept_alloc HC.out hb)
  have hl3 := lt_of_heap hX
  have G2 := hide ((g1.alloc _).below hb)
  have F2 := hide ((HF.out.alloc _).trans (Rfr.below hb))
  have hX2 := heap_far (C := (.cells #[.string s, .int .i64 r1, .int .i64 r2] 50)) hX (show w1.heap.size ≠ w.heap.size + 1 + 1 by omega) (.string s) (.int .i64 r1) (.int .i64 r2)
  have hez := fun W => eqz W
  have hlc1 := ldz hX2.1
  have hlc2 := ldz hX2.2
  clear hb g1 HF HC hX hX2
  go_wp2
  go_region
  all_goals go_wp2
  all_goals
    refine bodyPost_ret (v := .tuple #[.agg #[.string s, .int .i64 r1, .int .i64 r2], .bool true]) ?_ rfl ⟨rfl, one_endD G2.out F2.out hlt _ _ _ _⟩
    simp [results, Try.results25, go_sem, *]
theorem one_8 (p err n : Int) (x : Nat) (t : ByteArray) (h : Rst w b s p err) (hs : s.size ≤ maxLen) (h0 : 0 ≤ p) (h1 : p ≤ s.size) :
    Calls Try.prog 25 #[.pointer (some ⟨b, 0, none⟩), .agg #[.string s, .int .i64 p, .int .i64 err], .agg #[.int .i64 8, .int .i64 n, .int .u64 x, .string t]] w fun e w' =>
      e = .returned (.tuple #[.agg #[.string s, .int .i64 (rtake s p err 32).1, .int .i64 (rtake s p err 32).2.1], .bool true]) ∧ Rst w' b s (rtake s p err 32).1 (rtake s p err 32).2.1 ∧ Rfr b w w' := by
  have HR := hide fun w h => rHash b s w p err h hs h0 h1
  have HM := hide fun w => mTake s w p err 32 hs h0 h1 (by decide)
  have he := rtake_err s p err 32
  have ho := rtake_ok s p err 32
  unfold hashOf at HR
  generalize rtake s p err 32 = R at *
  obtain ⟨r1, r2, rb⟩ := R
  dsimp only at *
  by_cases h2 : r2 = 0
  · subst h2
    obtain ⟨-, -, -, h5, h6⟩ := ho rfl
    have hz : rb.size = 32 := by rw [h6]; simp; omega
    rw [if_neg (by simp)] at HR
    exact one_8ok b s w p err n r1 x t rb (by simpa using hz) h HR HM
  · obtain ⟨rfl, rfl⟩ := he h2
    rw [if_pos h2] at HR
    exact one_8no b s w r1 err n r1 r2 x t (by simp [h2]) (by simp [h2]) h HR HM
/-- What an act leaves of a reader: the place and the error. -/
def oneS (s : ByteArray) (p err kind n : Int) (x : Nat) : Int × Int :=
  if kind = 0 then ((rtake s p err 1).1, (rtake s p err 1).2.1) else if kind = 1 then ((rtake s p err 2).1, (rtake s p err 2).2.1) else if kind = 2 then ((rtake s p err 4).1, (rtake s p err 4).2.1) else
  if kind = 3 then ((rtake s p err 8).1, (rtake s p err 8).2.1) else if kind = 4 then ((rtake s p err 2).1, (rtake s p err 2).2.1) else if kind = 5 then ((rcnt s p err x).1, (rcnt s p err x).2.1) else
  if kind = 6 then ((rtake s p err n).1, (rtake s p err n).2.1) else if kind = 7 then ((rstr s p err n).1, (rstr s p err n).2.1) else if kind = 8 then ((rtake s p err 32).1, (rtake s p err 32).2.1) else
  if kind = 9 then ((rbool s p err).1, (rbool s p err).2.1) else if kind = 10 then (p, if err = 0 then n else err) else (p, rend s p err)
theorem one_any (p err kind n : Int) (x : Nat) (t : ByteArray) (hn : n ≤ 9223372036854775807) (h : Rst w b s p err) (hs : s.size ≤ maxLen) (h0 : 0 ≤ p) (h1 : p ≤ s.size) :
    Calls Try.prog 25 #[.pointer (some ⟨b, 0, none⟩), .agg #[.string s, .int .i64 p, .int .i64 err], .agg #[.int .i64 kind, .int .i64 n, .int .u64 x, .string t]] w fun e w' =>
      e = .returned (.tuple #[.agg #[.string s, .int .i64 (oneS s p err kind n x).1, .int .i64 (oneS s p err kind n x).2], .bool true]) ∧ Rst w' b s (oneS s p err kind n x).1 (oneS s p err kind n x).2 ∧ Rfr b w w' := by
  by_cases hk : 0 ≤ kind ∧ kind ≤ 10
  · rcases (show kind = 0 ∨ kind = 1 ∨ kind = 2 ∨ kind = 3 ∨ kind = 4 ∨ kind = 5 ∨ kind = 6 ∨ kind = 7 ∨ kind = 8 ∨ kind = 9 ∨ kind = 10 by omega) with rfl | rfl | rfl | rfl | rfl | rfl | rfl | rfl | rfl | rfl | rfl
    · exact one_0 b s w p err n x t h hs h0 h1
    · exact one_1 b s w p err n x t h hs h0 h1
    · exact one_2 b s w p err n x t h hs h0 h1
    · exact one_3 b s w p err n x t h hs h0 h1
    · exact one_4 b s w p err n x t h hs h0 h1
    · exact one_5 b s w p err n x t h hs h0 h1
    · exact one_6 b s w p err n x t hn h hs h0 h1
    · exact one_7 b s w p err n x t hn h hs h0 h1
    · exact one_8 b s w p err n x t h hs h0 h1
    · exact one_9 b s w p err n x t h hs h0 h1
    · exact one_10 b s w p err n x t h
  · have e : oneS s p err kind n x = (p, rend s p err) := by
      unfold oneS
      rw [if_neg (by omega), if_neg (by omega), if_neg (by omega), if_neg (by omega), if_neg (by omega), if_neg (by omega), if_neg (by omega), if_neg (by omega), if_neg (by omega), if_neg (by omega), if_neg (by omega)]
    rw [e]
    exact one_11 b s w p err n x t kind hk h hs h0 h1
theorem rstr_inv (p err most : Int) (h0 : 0 ≤ p) (h1 : p ≤ s.size) : 0 ≤ (rstr s p err most).1 ∧ (rstr s p err most).1 ≤ s.size := by
  have hi := rcnt_inv s p err most h0 h1
  have ht := rtake_inv s (rcnt s p err most).1 0 (rcnt s p err most).2.2 hi.1 hi.2.1
  unfold rstr
  repeat' split
  all_goals first | exact ⟨h0, h1⟩ | exact ht
theorem rbool_inv (p err : Int) (h0 : 0 ≤ p) (h1 : p ≤ s.size) : 0 ≤ (rbool s p err).1 ∧ (rbool s p err).1 ≤ s.size := by
  have ht := rtake_inv s p err 1 h0 h1
  unfold rbool
  repeat' split
  all_goals first | exact ⟨h0, h1⟩ | exact ht
theorem oneS_inv (p err kind n : Int) (x : Nat) (h0 : 0 ≤ p) (h1 : p ≤ s.size) : 0 ≤ (oneS s p err kind n x).1 ∧ (oneS s p err kind n x).1 ≤ s.size := by
  unfold oneS
  repeat' split
  all_goals first | exact ⟨h0, h1⟩ | exact rtake_inv s p err _ h0 h1 | exact ⟨(rcnt_inv s p err x h0 h1).1, (rcnt_inv s p err x h0 h1).2.1⟩ | exact rstr_inv s p err n h0 h1 | exact rbool_inv s p err h0 h1
end
end Go.Proofs.Ytnmffnefkokkeaa
