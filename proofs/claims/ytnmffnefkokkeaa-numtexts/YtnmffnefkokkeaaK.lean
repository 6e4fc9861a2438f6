/- The walk of the law NumNil. -/
import Derived.Test.YtnmffnefkokkeaaJ
import Derived.Test.YtnmffnefkokkeaaF
namespace Go.Proofs.Ytnmffnefkokkeaa
open Go.RowKit
section
set_option maxRecDepth 10000
theorem nLen (w : World) : Calls Try.prog 31 #[.pointer none] w fun e w' => e = .returned (.int .i64 0) ∧ w' = w := by
  go_enter Try.func31, Try.ntmps31
  go_wp2
  go_ret
  exact ⟨rfl, rfl⟩
theorem nText (w : World) : Calls Try.prog 32 #[.pointer none] w fun e w' => e = .returned (.string ⟨#[]⟩) ∧ w' = w := by
  go_enter Try.func32, Try.ntmps32
  go_wp2
  go_ret
  exact ⟨rfl, rfl⟩
theorem Wfr.nil {w w' : World} (h : Wfr w w' (.pointer none)) : Below w.heap.size w w' :=
  ⟨h.os, h.tape, h.output, h.size, fun k hk => h.block k hk (by simp [blkOf]) (by simp [rowOf])⟩
theorem eqz (W : World) : (Op.equalIn 10000 33 (.agg (hc zeros)) (.agg #[.int .u8 0, .int .u8 0, .int .u8 0, .int .u8 0, .int .u8 0, .int .u8 0, .int .u8 0, .int .u8 0, .int .u8 0, .int .u8 0, .int .u8 0, .int .u8 0, .int .u8 0, .int .u8 0, .int .u8 0, .int .u8 0, .int .u8 0, .int .u8 0, .int .u8 0, .int .u8 0, .int .u8 0, .int .u8 0, .int .u8 0, .int .u8 0, .int .u8 0, .int .u8 0, .int .u8 0, .int .u8 0, .int .u8 0, .int .u8 0, .int .u8 0, .int .u8 0])).run Try.prog W = .ok true W := by
  have h := run_equalIn_bytes (P := Try.prog) W 9998 33 5 32 Try.underlying33 Try.underlying5 size5 zeros zeros zeros_len zeros_len
  rw [show (zeros == zeros) = true from by simp] at h
  exact h
set_option maxHeartbeats 1000000 in
theorem numNil_walk (kind n : Int) (x : Nat) (hx : U64 x) (s : ByteArray) (hs : s.size ≤ 140737488351232) (w : World) :
    Calls Try.prog 7 #[.agg #[.int .i64 kind, .int .i64 n, .int .u64 x, .string s]] w fun e w' => e = .returned (.bool true) ∧ Below w.heap.size w w' := by
  have he33 := fun W => eqz W
  go_enter Try.func7, Try.ntmps7
  go_wp2_with fail
  refine (nFail _ _).mono ?_
  rintro e w1 ⟨rfl, rfl⟩
  go_wp2_with fail
  refine (put_any (.pointer none) [] kind n x s hx hs (.inl rfl) _ (by simp) (.inl rfl)).mono ?_
  rintro e w2 ⟨rfl, _, hw2⟩
  have hb2 := hw2.nil
  have hz2 : w.heap.size + 1 ≤ w2.heap.size := by simpa using hb2.size
  have c1 : w2.cell? ⟨w.heap.size, 1, none⟩ = some (.int .i64 n) := (hb2.cell (p := ⟨w.heap.size, 1, none⟩) (by simp)).trans (by simp)
  have c2 : w2.cell? ⟨w.heap.size, 2, none⟩ = some (.int .u64 x) := (hb2.cell (p := ⟨w.heap.size, 2, none⟩) (by simp)).trans (by simp)
  have HB2 : Hid (Below w.heap.size w w2) := ((Below.refl _ _).alloc (Nat.le_refl _) _).trans (hb2.mono (by simp))
  clear hw2 hb2
  go_wp2_with fail
  refine (awake_any _).mono ?_
  rintro e w3 ⟨rfl, hb3⟩
  have c1' : w3.cell? ⟨w.heap.size, 1, none⟩ = some (.int .i64 n) := (hb3.cell (p := ⟨w.heap.size, 1, none⟩) (by simp; omega)).trans c1
  have c2' : w3.cell? ⟨w.heap.size, 2, none⟩ = some (.int .u64 x) := (hb3.cell (p := ⟨w.heap.size, 2, none⟩) (by simp; omega)).trans c2
  have HB3 : Hid (Below w.heap.size w w3) := HB2.out.trans (hb3.mono (by omega))
  clear hb3 c1 c2 hz2 HB2
  go_wp2_with (first | (go_at_call 35; refine (nByte _).mono ?_; rintro e w1 ⟨rfl, rfl⟩) | (go_at_call 36; refine (nU16 _).mono ?_; rintro e w1 ⟨rfl, rfl⟩) | (go_at_call 37; refine (nU32 _).mono ?_; rintro e w1 ⟨rfl, rfl⟩) | (go_at_call 38; refine (nU64 _).mono ?_; rintro e w1 ⟨rfl, rfl⟩) | (go_at_call 39; refine (nBig _).mono ?_; rintro e w1 ⟨rfl, rfl⟩) | (go_at_call 40; refine (nCount _ _).mono ?_; rintro e w1 ⟨rfl, rfl⟩) | (go_at_call 41; refine (nBytes _ _).mono ?_; rintro e w1 ⟨rfl, rfl⟩) | (go_at_call 42; refine (nString _ _).mono ?_; rintro e w1 ⟨rfl, rfl⟩))
  refine (nHash _).mono ?_
  rintro e w4 ⟨rfl, hb4⟩
  go_wp2_with (first | (go_at_call 44; refine (nBool _).mono ?_; rintro e w1 ⟨rfl, rfl⟩) | (go_at_call 26; refine (nErr _).mono ?_; rintro e w1 ⟨rfl, rfl⟩) | (go_at_call 33; refine (nEnd _).mono ?_; rintro e w1 ⟨rfl, rfl⟩) | (go_at_call 27; refine (nAt _).mono ?_; rintro e w1 ⟨rfl, rfl⟩) | (go_at_call 28; refine (nLeft _).mono ?_; rintro e w1 ⟨rfl, rfl⟩) | (go_at_call 31; refine (nLen _).mono ?_; rintro e w1 ⟨rfl, rfl⟩) | (go_at_call 32; refine (nText _).mono ?_; rintro e w1 ⟨rfl, rfl⟩))
  go_ret
  exact ⟨rfl, HB3.out.trans (hb4.mono HB3.out.size)⟩
end
end Go.Proofs.Ytnmffnefkokkeaa
