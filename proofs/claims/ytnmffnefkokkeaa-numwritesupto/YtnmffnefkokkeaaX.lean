/- The walk of the law NumWrites. -/
import Derived.Test.YtnmffnefkokkeaaU
import Derived.Test.YtnmffnefkokkeaaW
import Derived.Test.YtnmffnefkokkeaaJ
namespace Go.Proofs.Ytnmffnefkokkeaa
open Go.RowKit
/-- An act: its kind, number, word and text. -/
def pc (F : Nat → Int × Int × Nat × ByteArray) (i : Nat) : List UInt8 := putL (F i).1 (F i).2.1 (F i).2.2.1 (F i).2.2.2
/-- What the first k acts put. -/
def wantL (F : Nat → Int × Int × Nat × ByteArray) (k : Nat) : List UInt8 := (List.range k).flatMap (pc F)
theorem wantL_succ (F : Nat → Int × Int × Nat × ByteArray) (k : Nat) : wantL F (k + 1) = wantL F k ++ pc F k := by simp [wantL, List.range_succ]
theorem wantL_split (F : Nat → Int × Int × Nat × ByteArray) (k n : Nat) (h : k < n) : ∃ B, wantL F n = wantL F k ++ pc F k ++ B := by
  induction n with
  | zero => omega
  | succ n ih =>
    rcases Nat.lt_or_ge k n with hlt | hge
    · obtain ⟨B, hB⟩ := ih hlt
      exact ⟨B ++ pc F n, by rw [wantL_succ, hB]; simp⟩
    · have : k = n := by omega
      subst this
      exact ⟨[], by rw [wantL_succ]; simp⟩
/-- The acts that came in, by a function. -/
def Acts (w : World) (ao : Option Addr) (len : Nat) (F : Nat → Int × Int × Nat × ByteArray) : Prop := ∀ i, i < len → ∃ g off, ao = some ⟨g, off, none⟩ ∧ g < w.heap.size ∧ (F i).2.1 ≤ 9223372036854775807 ∧ U64 (F i).2.2.1 ∧ (F i).2.2.2.size ≤ 35184372088832 ∧
  w.cell? ⟨g, off + i * 4, none⟩ = some (.int .i64 (F i).1) ∧ w.cell? ⟨g, off + i * 4 + 1, none⟩ = some (.int .i64 (F i).2.1) ∧ w.cell? ⟨g, off + i * 4 + 2, none⟩ = some (.int .u64 (F i).2.2.1) ∧ w.cell? ⟨g, off + i * 4 + 3, none⟩ = some (.string (F i).2.2.2)
section
set_option maxRecDepth 10000
set_option maxHeartbeats 1000000
theorem newWriter_any (w : World) : Calls Try.prog 29 #[] w fun e w' => e = .returned (.pointer (some ⟨w.heap.size, 0, none⟩)) ∧ w' = w.alloc (.cells #[.slice none 0 0] 93) := by
  go_enter Try.func29, Try.ntmps29
  go_wp2
  go_ret
  exact ⟨rfl, rfl⟩
theorem wLen (b : Nat) (l : List UInt8) (w : World) (h : Wst w (.pointer (some ⟨b, 0, none⟩)) l) : Calls Try.prog 31 #[.pointer (some ⟨b, 0, none⟩)] w fun e w' => e = .returned (.int .i64 l.length) ∧ w' = w := by
  rcases h with h | ⟨b', v, hp, hc, hf, ho, hne⟩
  · cases h
  · cases hp
    obtain ⟨ao, n, c, rfl, hn⟩ := ho.form
    have hn' := hn.out
    subst hn'
    clear ho hne hn
    go_enter Try.func31, Try.ntmps31
    go_wp2
    go_ret
    exact ⟨rfl, rfl⟩
theorem wText (b : Nat) (l : List UInt8) (w : World) (h : Wst w (.pointer (some ⟨b, 0, none⟩)) l) : Calls Try.prog 32 #[.pointer (some ⟨b, 0, none⟩)] w fun e w' => e = .returned (.string (txt l)) ∧ w' = w := by
  rcases h with h | ⟨b', v, hp, hc, hf, ho, hne⟩
  · cases h
  · cases hp
    have hcv := conv_own ho
    go_enter Try.func32, Try.ntmps32
    go_wp2
    go_ret
    exact ⟨rfl, rfl⟩
theorem Wst.new (w : World) : Wst (w.alloc (.cells #[.slice none 0 0] 93)) (.pointer (some ⟨w.heap.size, 0, none⟩)) [] := by
  refine .inr ⟨w.heap.size, .slice none 0 0, rfl, ?_, ?_, Own.nil _, by simp [Value.ownBlock]⟩
  · rw [cell_of_row _ _ 0 _ _ _ (heap_alloc_new w _)]; rfl
  · exact frozen_of_row _ _ 0 _ _ (heap_alloc_new w _)
theorem str_txt (a c : List UInt8) : txt a ++ (⟨c.toArray⟩ : ByteArray) = txt (a ++ c) := str_app a ⟨c.toArray⟩
theorem Wfr.toBelow {w w3 wr : World} (B : Below w.heap.size w w3) (Q : rowOf w3 (.pointer (some ⟨w.heap.size, 0, none⟩)) = none) (h : Wfr w3 wr (.pointer (some ⟨w.heap.size, 0, none⟩))) : Below w.heap.size w wr :=
  B.trans ⟨h.os, h.tape, h.output, h.size, fun k hk => h.block k (Nat.lt_of_lt_of_le hk B.size) (by simp only [blkOf, ne_eq, Option.some.injEq]; omega) (by rw [Q]; simp)⟩
theorem Wst.ofNil {w : World} {g : Nat} (h : w.heap[g]? = some (.cells #[.slice none 0 0] 93 (0, 0))) : Wst w (.pointer (some ⟨g, 0, none⟩)) [] :=
  .inr ⟨g, .slice none 0 0, rfl, by rw [cell_of_row _ _ 0 _ _ _ h]; rfl, frozen_of_row _ _ 0 _ _ h, Own.nil _, by simp [Value.ownBlock]⟩
theorem numWrites_walk (ao : Option Addr) (len cap : Nat) (F : Nat → Int × Int × Nat × ByteArray) (w : World) (hl : len ≤ maxLen) (hsum : ∀ k, k ≤ len → (wantL F k).length ≤ 35184372088832) (hacts : Acts w ao len F) :
    Calls Try.prog 6 #[.slice ao len cap] w fun e w' => e = .returned (.bool true) ∧ Below w.heap.size w w' := by
  unfold maxLen at hl
  have HA := hide hacts
  have HS := hide hsum
  clear hacts hsum
  go_enter Try.func6, Try.ntmps6
  go_wp2_with fail
  refine (newWriter_any _).mono ?_
  rintro e w1 ⟨rfl, hw1⟩
  have hz1 : w1.heap.size = w.heap.size + 1 := by rw [hw1]; simp
  have S1 : Hid (Wst w1 (.pointer (some ⟨w.heap.size, 0, none⟩)) []) := by subst hw1; exact Wst.new w
  have Q1 : Hid (rowOf w1 (.pointer (some ⟨w.heap.size, 0, none⟩)) = none) := by
    subst hw1
    unfold Hid
    simp only [rowOf]
    rw [cell_of_row _ _ 0 _ _ _ (heap_alloc_new w _)]
    rfl
  have B1 : Hid (Below w.heap.size w w1) := by subst hw1; exact (Below.refl _ _).alloc (Nat.le_refl _) _
  have Z1 := hide hz1
  clear hw1 hz1
  go_wp2_with fail
  refine (newWriter_any _).mono ?_
  rintro e w2 ⟨rfl, hw2⟩
  have b2 : Below w1.heap.size w1 w2 := by subst hw2; exact (Below.refl _ _).alloc (Nat.le_refl _) _
  have O2 : Hid (w2.heap[w1.heap.size]? = some (.cells #[.slice none 0 0] 93 (0, 0))) := by subst hw2; exact heap_alloc_new w1 _
  clear hw2
  go_wp2_with fail
  refine (awake_any _).mono ?_
  rintro e w3 ⟨rfl, b3⟩
  have b13 : Below w1.heap.size w1 w3 := b2.trans (b3.mono b2.size)
  have S3 := hide (S1.out.below b13)
  have Q3 : Hid (rowOf w3 (.pointer (some ⟨w.heap.size, 0, none⟩)) = none) := by
    have h := Q1.out
    simp only [rowOf] at h
    unfold Hid
    simp only [rowOf]
    rw [b13.cell (p := ⟨w.heap.size, 0, none⟩) (by have := Z1.out; show w.heap.size < w1.heap.size; omega)]
    exact h
  have O3 := hide (kept_below O2.out b3)
  have B3 := hide (B1.out.trans (b13.mono B1.out.size))
  clear b2 b3 b13 S1 Q1 B1 O2
  go_wp2
  go_loopw [5, 6] (fun o i wr => ∃ k : Nat, k ≤ len ∧ i = .int .i64 k ∧ o = .string (txt (wantL F k)) ∧ Hid (Wst wr (.pointer (some ⟨w.heap.size, 0, none⟩)) (wantL F k)) ∧ Hid (Wfr w3 wr (.pointer (some ⟨w.heap.size, 0, none⟩)))) (fun _ i _ => (len - intOf i).toNat)
  case atStart => exact ⟨0, Nat.zero_le _, rfl, rfl, S3, Wfr.refl _ _⟩
  case round =>
    obtain ⟨k, hk, rfl, rfl, S4, F4⟩ := hrel
    have B4 := hide (Wfr.toBelow B3.out Q3.out F4.out)
    by_cases hlt : k < len
    · obtain ⟨g, off, rfl, hg, hn, hx, hs, d0, d1, d2, d3⟩ := HA.out k hlt
      have e0 := (B4.out.cell (p := ⟨g, off + k * 4, none⟩) hg).trans d0
      have e1 := (B4.out.cell (p := ⟨g, off + k * 4 + 1, none⟩) hg).trans d1
      have e2 := (B4.out.cell (p := ⟨g, off + k * 4 + 2, none⟩) hg).trans d2
      have e3 := (B4.out.cell (p := ⟨g, off + k * 4 + 3, none⟩) hg).trans d3
      clear d0 d1 d2 d3
      have l1 := HS.out k (by omega)
      have l2 := HS.out (k + 1) (by omega)
      have HO : Hid (∀ W, Wst W (.pointer (some ⟨w.heap.size, 0, none⟩)) (wantL F k) → Calls Try.prog 30 #[.pointer (some ⟨w.heap.size, 0, none⟩), .agg #[.int .i64 (F k).1, .int .i64 (F k).2.1, .int .u64 (F k).2.2.1, .string (F k).2.2.2]] W fun e w' => e = .returned (.string (txt (pc F k))) ∧ Wst w' (.pointer (some ⟨w.heap.size, 0, none⟩)) (wantL F (k + 1)) ∧ Wfr W w' (.pointer (some ⟨w.heap.size, 0, none⟩))) := by
        intro W hW
        rw [wantL_succ]
        exact put_any _ _ _ _ _ _ hx (by omega) (.inr hs) W l1 hW
      have hcat : txt (wantL F k) ++ txt (pc F k) = txt (wantL F (k + 1)) := by rw [wantL_succ]; exact str_txt _ _
      have hsA : (txt (wantL F k)).size ≤ 35184372088832 := by rw [txt_size]; exact l1
      have hsB : (txt (pc F k)).size ≤ 35184372088832 := by
        have := l2
        rw [wantL_succ, List.length_append] at this
        rw [txt_size]
        omega
      have hsC : (txt (wantL F (k + 1))).size = (wantL F (k + 1)).length := txt_size _
      have hk0 : (0 : Int) ≤ k := by omega
      have hk1 : (k : Int) < len := by omega
      go_wp2_with (first | (go_at_call 30; refine (HO.out _ S4.out).mono ?_; rintro e w4 ⟨rfl, g4, f4⟩) | (go_at_call 31; refine (wLen _ _ _ g4).mono ?_; rintro e w5 ⟨rfl, rfl⟩))
      exact ⟨⟨k + 1, by omega, by go_num, rfl, g4, F4.out.trans f4⟩, by simp [intOf]; omega⟩
    · have hke : k = len := by omega
      subst hke
      have hO4 : wr.heap[w1.heap.size]? = some (.cells #[.slice none 0 0] 93 (0, 0)) := by
        have hz := Z1.out
        rw [F4.out.block w1.heap.size (lt_of_heap O3.out) (by simp only [blkOf, ne_eq, Option.some.injEq]; omega) (by rw [Q3.out]; simp)]
        exact O3.out
      have SO := hide (Wst.ofNil hO4)
      clear hO4
      have l1 := HS.out k (Nat.le_refl _)
      have hsA : (txt (wantL F k)).size ≤ maxLen := by rw [txt_size]; unfold maxLen; omega
      go_wp2_with fail
      refine (wText _ _ _ S4.out).mono ?_
      rintro e w4 ⟨rfl, rfl⟩
      go_wp2_with fail
      refine (wLen _ _ _ SO.out).mono ?_
      rintro e w5 ⟨rfl, rfl⟩
      go_wp2_with fail
      refine (wText _ _ _ SO.out).mono ?_
      rintro e w6 ⟨rfl, rfl⟩
      have het : txt [] = ⟨#[]⟩ := rfl
      rw [het]
      go_wp2_with fail
      refine (newReader_any _ _).mono ?_
      rintro e w7 ⟨rfl, hw7⟩
      have R7 : Hid (Rst w7 w6.heap.size (txt (wantL F k)) 0 0) := by subst hw7; exact heap_alloc_new w6 _
      have B7 : Hid (Below w.heap.size w w7) := by subst hw7; exact B4.out.alloc B4.out.size _
      have hz7 : w7.heap.size = w6.heap.size + 1 := by rw [hw7]; simp
      have Z7 := hide hz7
      have hb6 := B4.out.size
      clear hw7 hz7 het
      go_wp2
      go_loopw [9, 10, 11] (fun i _ _ wq => ∃ j : Nat, j ≤ k ∧ i = .int .i64 j ∧ Hid (Rst wq w6.heap.size (txt (wantL F k)) (wantL F j).length 0) ∧ Hid (wq.heap[w7.heap.size]? = some (.cells #[.string (txt (wantL F k)), .int .i64 (wantL F j).length, .int .i64 0] 50 (0, 0))) ∧ Hid (Below w.heap.size w wq)) (fun i _ _ _ => (k - intOf i).toNat)
      case atStart => exact ⟨0, Nat.zero_le _, rfl, R7.out.alloc _, heap_alloc_new w7 _, B7.out.alloc B7.out.size _⟩
      case round =>
        obtain ⟨j, hj, rfl, R8, M8, B8⟩ := hrel
        by_cases hjt : j < k
        · obtain ⟨g, off, rfl, hg, hn, hx, hs, d0, d1, d2, d3⟩ := HA.out j hjt
          have e0 := (B8.out.cell (p := ⟨g, off + j * 4, none⟩) hg).trans d0
          have e1 := (B8.out.cell (p := ⟨g, off + j * 4 + 1, none⟩) hg).trans d1
          have e2 := (B8.out.cell (p := ⟨g, off + j * 4 + 2, none⟩) hg).trans d2
          have e3 := (B8.out.cell (p := ⟨g, off + j * 4 + 3, none⟩) hg).trans d3
          clear d0 d1 d2 d3
          obtain ⟨tail, htail⟩ := wantL_split F j k hjt
          have HO : Hid (∀ W, Rst W w6.heap.size (txt (wantL F k)) (wantL F j).length 0 → Calls Try.prog 25 #[.pointer (some ⟨w6.heap.size, 0, none⟩), .agg #[.string (txt (wantL F k)), .int .i64 (wantL F j).length, .int .i64 0], .agg #[.int .i64 (kindOf (F j).1), .int .i64 (F j).2.2.2.size, .int .u64 18446744073709551615, .string (F j).2.2.2]] W fun e w' =>
              e = .returned (.tuple #[.agg #[.string (txt (wantL F k)), .int .i64 (wantL F (j + 1)).length, .int .i64 0], .bool true]) ∧ Rst w' w6.heap.size (txt (wantL F k)) (wantL F (j + 1)).length 0 ∧ Rfr w6.heap.size W w') := by
            intro W hW
            have hle : (wantL F j).length ≤ (txt (wantL F k)).size := by rw [txt_size, htail]; simp
            have h := one_any w6.heap.size (txt (wantL F k)) W (wantL F j).length 0 (kindOf (F j).1) (F j).2.2.2.size 18446744073709551615 (F j).2.2.2 (by omega) hW hsA (by omega) (by omega)
            have hp := one_piece (wantL F j) tail (F j).1 (F j).2.1 (F j).2.2.1 hx (F j).2.2.2 hs
            have hl : ((wantL F j).length : Int) + ((putL (F j).1 (F j).2.1 (F j).2.2.1 (F j).2.2.2).length : Int) = ((wantL F (j + 1)).length : Int) := by rw [wantL_succ, List.length_append]; unfold pc; omega
            rw [hl] at hp
            have ht : txt (wantL F k) = txt (wantL F j ++ putL (F j).1 (F j).2.1 (F j).2.2.1 (F j).2.2.2 ++ tail) := by rw [htail]; rfl
            rw [← ht] at hp
            rw [hp] at h
            exact h
          clear htail
          obtain ⟨m0, m1, m2, fm0, fm1, fm2⟩ := cells3 M8.out
          have hm7 := lt_of_heap M8.out
          have hz7 : w6.heap.size < w7.heap.size := by have := Z7.out; omega
          have hj0 : (0 : Int) ≤ j := by omega
          have hj1 : (j : Int) < k := by omega
          by_cases hk0 : (F j).1 < 0
          · have ek : kindOf (F j).1 = 9 := by unfold kindOf; rw [if_pos (.inl hk0)]
            rw [ek] at HO
            clear ek
            go_wp2_with fail
            refine (HO.out _ (R8.out.alloc _)).mono ?_
            rintro e w8 ⟨rfl, g8, f8⟩
            have hM8 : w8.heap[w7.heap.size]? = some (.cells #[.string (txt (wantL F k)), .int .i64 (wantL F j).length, .int .i64 0] 50 (0, 0)) :=
              (f8.block w7.heap.size (by simp; omega) (by omega)).trans ((Below.heap_alloc _ _ _ hm7).trans M8.out)
            obtain ⟨v0, v1, v2, fv0, fv1, fv2⟩ := cells3 hM8
            have V8 := hide (heap_setCell_same _ w7.heap.size 2 _ _ (.int .i64 0) (heap_setCell_same _ w7.heap.size 1 _ _ (.int .i64 (wantL F (j + 1)).length) (heap_setCell_same _ w7.heap.size 0 _ _ (.string (txt (wantL F k))) hM8)))
            have G8 := hide (g8.set3 (g := w7.heap.size) (by omega) (.string (txt (wantL F k))) (.int .i64 (wantL F (j + 1)).length) (.int .i64 0))
            have B9 : Hid (Below w.heap.size w w8) := (B8.out.alloc B8.out.size _).trans ⟨f8.os, f8.tape, f8.output, f8.size, fun q hq => f8.block q (by have := B8.out.size; simp; omega) (by omega)⟩
            clear hM8 g8 f8
            go_wp2
            exact ⟨⟨j + 1, by omega, by go_num, G8.out, V8.out, below3 B9.out (by omega) _ _ _⟩, by simp [intOf]; omega⟩
          · by_cases hk9 : 9 < (F j).1
            · have ek : kindOf (F j).1 = 9 := by unfold kindOf; rw [if_pos (.inr hk9)]
              rw [ek] at HO
              clear ek
              go_wp2_with fail
              refine (HO.out _ (R8.out.alloc _)).mono ?_
              rintro e w8 ⟨rfl, g8, f8⟩
              have hM8 : w8.heap[w7.heap.size]? = some (.cells #[.string (txt (wantL F k)), .int .i64 (wantL F j).length, .int .i64 0] 50 (0, 0)) :=
                (f8.block w7.heap.size (by simp; omega) (by omega)).trans ((Below.heap_alloc _ _ _ hm7).trans M8.out)
              obtain ⟨v0, v1, v2, fv0, fv1, fv2⟩ := cells3 hM8
              have V8 := hide (heap_setCell_same _ w7.heap.size 2 _ _ (.int .i64 0) (heap_setCell_same _ w7.heap.size 1 _ _ (.int .i64 (wantL F (j + 1)).length) (heap_setCell_same _ w7.heap.size 0 _ _ (.string (txt (wantL F k))) hM8)))
              have G8 := hide (g8.set3 (g := w7.heap.size) (by omega) (.string (txt (wantL F k))) (.int .i64 (wantL F (j + 1)).length) (.int .i64 0))
              have B9 : Hid (Below w.heap.size w w8) := (B8.out.alloc B8.out.size _).trans ⟨f8.os, f8.tape, f8.output, f8.size, fun q hq => f8.block q (by have := B8.out.size; simp; omega) (by omega)⟩
              clear hM8 g8 f8
              go_wp2
              exact ⟨⟨j + 1, by omega, by go_num, G8.out, V8.out, below3 B9.out (by omega) _ _ _⟩, by simp [intOf]; omega⟩
            · have ek : kindOf (F j).1 = (F j).1 := by unfold kindOf; rw [if_neg (by omega)]
              rw [ek] at HO
              clear ek
              go_wp2_with fail
              refine (HO.out _ (R8.out.alloc _)).mono ?_
              rintro e w8 ⟨rfl, g8, f8⟩
              have hM8 : w8.heap[w7.heap.size]? = some (.cells #[.string (txt (wantL F k)), .int .i64 (wantL F j).length, .int .i64 0] 50 (0, 0)) :=
                (f8.block w7.heap.size (by simp; omega) (by omega)).trans ((Below.heap_alloc _ _ _ hm7).trans M8.out)
              obtain ⟨v0, v1, v2, fv0, fv1, fv2⟩ := cells3 hM8
              have V8 := hide (heap_setCell_same _ w7.heap.size 2 _ _ (.int .i64 0) (heap_setCell_same _ w7.heap.size 1 _ _ (.int .i64 (wantL F (j + 1)).length) (heap_setCell_same _ w7.heap.size 0 _ _ (.string (txt (wantL F k))) hM8)))
              have G8 := hide (g8.set3 (g := w7.heap.size) (by omega) (.string (txt (wantL F k))) (.int .i64 (wantL F (j + 1)).length) (.int .i64 0))
              have B9 : Hid (Below w.heap.size w w8) := (B8.out.alloc B8.out.size _).trans ⟨f8.os, f8.tape, f8.output, f8.size, fun q hq => f8.block q (by have := B8.out.size; simp; omega) (by omega)⟩
              clear hM8 g8 f8
              go_wp2
              exact ⟨⟨j + 1, by omega, by go_num, G8.out, V8.out, below3 B9.out (by omega) _ _ _⟩, by simp [intOf]; omega⟩
        · have hje : j = k := by omega
          subst hje
          have hend : rend (txt (wantL F j)) (wantL F j).length 0 = 0 := by unfold rend; rw [if_pos rfl, txt_size, if_neg (by omega)]
          have HE := hide (rEnd w6.heap.size (txt (wantL F j)) wr (wantL F j).length 0 R8.out hsA (by omega) (by rw [txt_size]; omega))
          rw [hend] at HE
          clear hend
          go_wp2_with fail
          refine HE.out.mono ?_
          rintro e w8 ⟨rfl, g8, f8⟩
          go_wp2
          go_ret
          refine ⟨rfl, ?_⟩
          exact B8.out.trans ⟨f8.os, f8.tape, f8.output, f8.size, fun q hq => f8.block q (Nat.lt_of_lt_of_le hq B8.out.size) (by omega)⟩
end
end Go.Proofs.Ytnmffnefkokkeaa
