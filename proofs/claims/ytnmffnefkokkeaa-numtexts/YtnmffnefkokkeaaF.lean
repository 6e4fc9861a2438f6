/- The contracts of the methods of num on nil readers and writers. -/
import Derived.Test.YtnmffnefkokkeaaG
namespace Go.Proofs.Ytnmffnefkokkeaa
open Go.RowKit

section
variable (w : World)
set_option maxRecDepth 10000
theorem nErr : Calls Try.prog 26 #[.pointer none] w fun e w' => e = .returned (.int .i64 1) ∧ w' = w := by
  go_enter Try.func26, Try.ntmps26
  go_wp2
  go_ret
  exact ⟨rfl, rfl⟩
theorem nAt : Calls Try.prog 27 #[.pointer none] w fun e w' => e = .returned (.int .i64 0) ∧ w' = w := by
  go_enter Try.func27, Try.ntmps27
  go_wp2
  go_ret
  exact ⟨rfl, rfl⟩
theorem nLeft : Calls Try.prog 28 #[.pointer none] w fun e w' => e = .returned (.int .i64 0) ∧ w' = w := by
  go_enter Try.func28, Try.ntmps28
  go_wp2
  go_ret
  exact ⟨rfl, rfl⟩
theorem nFail (n : Int) : Calls Try.prog 34 #[.pointer none, .int .i64 n] w fun e w' => e = .returned (.tuple #[]) ∧ w' = w := by
  go_enter Try.func34, Try.ntmps34
  go_wp2_with (go_at_call 26; refine (nErr _).mono ?_; rintro e w1 ⟨rfl, rfl⟩)
  go_end0
  exact ⟨rfl, rfl⟩
theorem nTake (n : Int) : Calls Try.prog 70 #[.pointer none, .int .i64 n] w fun e w' => e = .returned (.string ⟨#[]⟩) ∧ w' = w := by
  go_enter Try.func70, Try.ntmps70
  go_wp2_with (go_at_call 26; refine (nErr _).mono ?_; rintro e w1 ⟨rfl, rfl⟩)
  go_ret
  exact ⟨rfl, rfl⟩
theorem nLow : Calls Try.prog 46 #[.string ⟨#[]⟩] w fun e w' => e = .returned (.int .u64 0) ∧ w' = w := lowFirst_any ⟨#[]⟩ w (by decide)
theorem nByte : Calls Try.prog 35 #[.pointer none] w fun e w' => e = .returned (.int .u8 0) ∧ w' = w := by
  go_enter Try.func35, Try.ntmps35
  go_wp2_with (first | (go_at_call 70; refine (nTake _ _).mono ?_; rintro e w1 ⟨rfl, rfl⟩) | (go_at_call 46; refine (nLow _).mono ?_; rintro e w1 ⟨rfl, rfl⟩))
  go_ret
  exact ⟨rfl, rfl⟩
theorem nU16 : Calls Try.prog 36 #[.pointer none] w fun e w' => e = .returned (.int .u16 0) ∧ w' = w := by
  go_enter Try.func36, Try.ntmps36
  go_wp2_with (first | (go_at_call 70; refine (nTake _ _).mono ?_; rintro e w1 ⟨rfl, rfl⟩) | (go_at_call 46; refine (nLow _).mono ?_; rintro e w1 ⟨rfl, rfl⟩))
  go_ret
  exact ⟨rfl, rfl⟩
theorem nU32 : Calls Try.prog 37 #[.pointer none] w fun e w' => e = .returned (.int .u32 0) ∧ w' = w := by
  go_enter Try.func37, Try.ntmps37
  go_wp2_with (first | (go_at_call 70; refine (nTake _ _).mono ?_; rintro e w1 ⟨rfl, rfl⟩) | (go_at_call 46; refine (nLow _).mono ?_; rintro e w1 ⟨rfl, rfl⟩))
  go_ret
  exact ⟨rfl, rfl⟩
theorem nU64 : Calls Try.prog 38 #[.pointer none] w fun e w' => e = .returned (.int .u64 0) ∧ w' = w := by
  go_enter Try.func38, Try.ntmps38
  go_wp2_with (first | (go_at_call 70; refine (nTake _ _).mono ?_; rintro e w1 ⟨rfl, rfl⟩) | (go_at_call 46; refine (nLow _).mono ?_; rintro e w1 ⟨rfl, rfl⟩))
  go_ret
  exact ⟨rfl, rfl⟩
theorem nBig : Calls Try.prog 39 #[.pointer none] w fun e w' => e = .returned (.int .u16 0) ∧ w' = w := by
  go_enter Try.func39, Try.ntmps39
  go_wp2_with (first | (go_at_call 36; refine (nU16 _).mono ?_; rintro e w1 ⟨rfl, rfl⟩) | go_in)
  go_ret
  exact ⟨by simp [bits, IntKind.wrap, IntKind.bits, IntKind.signed], rfl⟩
theorem nCount (n : Int) : Calls Try.prog 40 #[.pointer none, .int .u64 n] w fun e w' => e = .returned (.int .u64 0) ∧ w' = w := by
  go_enter Try.func40, Try.ntmps40
  go_wp2_with (go_at_call 26; refine (nErr _).mono ?_; rintro e w1 ⟨rfl, rfl⟩)
  go_ret
  exact ⟨rfl, rfl⟩
theorem nBytes (n : Int) : Calls Try.prog 41 #[.pointer none, .int .i64 n] w fun e w' => e = .returned (.string ⟨#[]⟩) ∧ w' = w := by
  by_cases h : n < 0
  · go_enter Try.func41, Try.ntmps41
    go_wp2_with (go_at_call 34; refine (nFail _ _).mono ?_; rintro e w1 ⟨rfl, rfl⟩)
    go_ret
    exact ⟨rfl, rfl⟩
  · go_enter Try.func41, Try.ntmps41
    go_wp2_with (go_at_call 70; refine (nTake _ _).mono ?_; rintro e w1 ⟨rfl, rfl⟩)
    go_ret
    exact ⟨rfl, rfl⟩
theorem nString (n : Int) : Calls Try.prog 42 #[.pointer none, .int .i64 n] w fun e w' => e = .returned (.string ⟨#[]⟩) ∧ w' = w := by
  by_cases h : n < 0
  · go_enter Try.func42, Try.ntmps42
    go_wp2_with (go_at_call 34; refine (nFail _ _).mono ?_; rintro e w1 ⟨rfl, rfl⟩)
    go_ret
    exact ⟨rfl, rfl⟩
  · go_enter Try.func42, Try.ntmps42
    go_wp2_with (go_at_call 26; refine (nErr _).mono ?_; rintro e w1 ⟨rfl, rfl⟩)
    go_ret
    exact ⟨rfl, rfl⟩
theorem nBool : Calls Try.prog 44 #[.pointer none] w fun e w' => e = .returned (.bool false) ∧ w' = w := by
  go_enter Try.func44, Try.ntmps44
  go_wp2_with (go_at_call 35; refine (nByte _).mono ?_; rintro e w1 ⟨rfl, rfl⟩)
  go_ret
  exact ⟨rfl, rfl⟩
theorem nEnd : Calls Try.prog 33 #[.pointer none] w fun e w' => e = .returned (.int .i64 1) ∧ w' = w := by
  go_enter Try.func33, Try.ntmps33
  go_wp2_with (first | (go_at_call 28; refine (nLeft _).mono ?_; rintro e w1 ⟨rfl, rfl⟩) | (go_at_call 26; refine (nErr _).mono ?_; rintro e w1 ⟨rfl, rfl⟩))
  go_ret
  exact ⟨rfl, rfl⟩
set_option maxHeartbeats 800000 in
theorem nHash : Calls Try.prog 43 #[.pointer none] w fun e w' => e = .returned (.agg (hc zeros)) ∧ Below w.heap.size w w' := by
  have hcp := fun W d a b => copy_none W d a b
  go_enter Try.func43, Try.ntmps43
  go_wp2_with (first | refine wpList_alloc33 rfl rfl ?_)
  go_region_with (go_at_call 70; refine (nTake _ _).mono ?_; rintro e w1 ⟨rfl, rfl⟩)
  have h1 : ((w.alloc (.cells (hc zeros) 33)).alloc (.cells (hc zeros) 33)).drew.heap[w.heap.size + 1]? = some (.cells (hc zeros) 33 (0, 0)) := heap_alloc2_new w _ _
  have h2 : ((w.alloc (.cells (hc zeros) 33)).alloc (.cells (hc zeros) 33)).drew.heap[w.heap.size]? = some (.cells (hc zeros) 33 (0, 0)) := heap_alloc2_old w _ _
  go_wp2_with (first | (refine wpList_load33 rfl _ rfl (w.heap.size + 1) rfl zeros zeros_len 33 h1 ?_) | (refine wpList_store33 rfl _ _ rfl w.heap.size zeros zeros_len rfl rfl zeros zeros_len 33 h2 ?_))
  refine bodyPost_ret (v := .agg (hc zeros)) (res33 Try.results43 _ _ w.heap.size 33 zeros zeros_len rfl (setRow_heap _ _ _ _ _ _ h2)) rfl ⟨rfl, ?_⟩
  exact below_setRow ((((Below.refl _ _).alloc (Nat.le_refl _) _).alloc (by simp) _).drew) (Nat.le_refl _) _
end
end Go.Proofs.Ytnmffnefkokkeaa
