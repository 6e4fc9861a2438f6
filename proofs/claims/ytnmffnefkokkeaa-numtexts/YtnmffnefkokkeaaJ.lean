/- The contract of the law's put, at a text and at every act. -/
import Derived.Test.YtnmffnefkokkeaaI
namespace Go.Proofs.Ytnmffnefkokkeaa
open Go.RowKit
theorem str_app (a : List UInt8) (s : ByteArray) : (⟨a.toArray⟩ : ByteArray) ++ s = ⟨(a ++ s.data.toList).toArray⟩ := by
  apply ByteArray.ext
  apply Array.ext'
  simp
section
set_option maxRecDepth 10000
set_option maxHeartbeats 400000
theorem put_7 (p : Value) (l : List UInt8) (n : Int) (x : Nat) (s : ByteArray) (hs0 : s.size ≤ 140737488351232) (hs : Hid (p = .pointer none ∨ s.size ≤ 35184372088832)) (w : World) (hl : l.length ≤ 35184372088832) (h : Wst w p l) :
    Calls Try.prog 30 #[p, .agg #[.int .i64 7, .int .i64 n, .int .u64 x, .string s]] w fun e w' => e = .returned (.string ⟨(countL s.size ++ s.data.toList).toArray⟩) ∧ Wst w' p (l ++ (countL s.size ++ s.data.toList)) ∧ Wfr w w' p := by
  go_enter Try.func30, Try.ntmps30
  go_wp2_with (first | refine wpList_alloc33 rfl rfl ?_ | (refine wpList_buildH rfl _ _ rfl _ rfl rfl (n % 256).toNat (by omega) (by omega) ?_) | (refine wpList_store33_new rfl _ _ rfl _ (by simp) _ (hashL_len _) rfl rfl zeros_len ?_))
  refine (wString p l s hs0 hs.out _ hl (h.below (two_below _ _ _))).mono ?_
  rintro e w1 ⟨rfl, hw1, hw2⟩
  obtain ⟨c2, c3, hh⟩ := put_kept h hw2
  have hlt : w.heap.size < w1.heap.size := block_lt_of_cell c3
  have hcl : (countL s.size).length ≤ 9 := by
    have h1 := countL_len s.size
    have h2 := clong_le s.size
    omega
  have HH : Hid (Wst w1 p (l ++ countL s.size ++ s.data.toList) ∧ Wfr w w1 p) := ⟨hw1, (Wfr.of_below h (two_below _ _ _)).trans hw2⟩
  have hu : U64 s.size := by unfold U64; omega
  have hwr : IntKind.u64.wrap (s.size : Int) = (s.size : Int) := wrapu _ (by omega) (by omega)
  clear hw1 hw2 hh c2 h
  go_wp2
  go_region_with (go_at_call 10; refine (rcount_any s.size hu _).mono ?_; rintro e w2 ⟨rfl, hb⟩; have c4 := (hb.cell (p := ⟨w.heap.size, 3, none⟩) hlt).trans c3)
  all_goals go_wp2
  all_goals
    go_ret
    obtain ⟨hA, hB⟩ := HH.out
    rw [List.append_assoc] at hA
    have hb' : Below w1.heap.size w1 w2 := ⟨hb.os, hb.tape, hb.output, hb.size, hb.block⟩
    exact ⟨by rw [str_app]; rfl, hA.below hb', hB.trans (Wfr.of_below hA hb')⟩
theorem put_any (p : Value) (l : List UInt8) (kind n : Int) (x : Nat) (s : ByteArray) (hx : U64 x) (hs0 : s.size ≤ 140737488351232) (hs : p = .pointer none ∨ s.size ≤ 35184372088832) (w : World) (hl : l.length ≤ 35184372088832) (h : Wst w p l) :
    Calls Try.prog 30 #[p, .agg #[.int .i64 kind, .int .i64 n, .int .u64 x, .string s]] w fun e w' => e = .returned (.string ⟨(putL kind n x s).toArray⟩) ∧ Wst w' p (l ++ putL kind n x s) ∧ Wfr w w' p := by
  by_cases hk : 0 ≤ kind ∧ kind ≤ 8
  · rcases (show kind = 0 ∨ kind = 1 ∨ kind = 2 ∨ kind = 3 ∨ kind = 4 ∨ kind = 5 ∨ kind = 6 ∨ kind = 7 ∨ kind = 8 by omega) with rfl | rfl | rfl | rfl | rfl | rfl | rfl | rfl | rfl
    · exact put_0 p l n x s hx w hl h
    · exact put_1 p l n x s hx w hl h
    · exact put_2 p l n x s hx w hl h
    · exact put_3 p l n x s hx w hl h
    · exact put_4 p l n x s hx w hl h
    · exact put_5 p l n x s hx w hl h
    · exact put_6 p l n x s hs w hl h
    · exact put_7 p l n x s hs0 hs w hl h
    · exact put_8 p l n x s w hl h
  · have e : putL kind n x s = lowL (x % 2) 1 := by
      unfold putL
      rw [if_neg (by omega), if_neg (by omega), if_neg (by omega), if_neg (by omega), if_neg (by omega), if_neg (by omega), if_neg (by omega), if_neg (by omega), if_neg (by omega)]
    rw [e]
    exact put_9 p l n x s kind hk w hl h
end
end Go.Proofs.Ytnmffnefkokkeaa
