/- Entries of the index: their cells; index.within, mayBe, four, the document's small and May, the law's ref: their contracts. Bytes made out of a text and appended to; index.putFour, index.Bytes: their contracts. index.putFour, index.Bytes: their contracts. -/
import Derived.Test.YtpffaaalncdjcaaGreatDoorN23
import Derived.Deep.MidRow
import Derived.Deep.AppendSrc
namespace Go.Proofs.YtpffaaalncdjcaaGreatDoor
open Go.RowKit
open Go.Deep
set_option linter.unusedVariables false
/-- An entry. -/
structure En where
  h : Hd
  ht : Int
  st : Int
  fl : Int
  pl : Int
  lg : Int
def En.tail (x : En) : List Value := [.int .i64 x.ht, .int .i64 x.st, .int .i64 x.fl, .int .i64 x.pl, .int .i64 x.lg]
def En.cells (x : En) : List Value := x.h.cells ++ x.tail
theorem En.len (x : En) : x.cells.length = 73 := by rw [En.cells, List.length_append, x.h.len]; rfl
theorem En.size (x : En) : x.cells.toArray.size = 73 := by rw [List.size_toArray, x.len]
theorem En.all (x : En) : x.cells.toArray.all (·.oneCell') = true := by
  rw [Array.all_eq_true_iff_forall_mem]
  intro v hv
  simp only [En.cells, En.tail, List.mem_toArray, List.mem_append, List.mem_cons, List.not_mem_nil, or_false] at hv
  rcases hv with hv | rfl | rfl | rfl | rfl | rfl
  · exact x.h.one v hv
  all_goals rfl
def zEn : En := ⟨zHd, 0, 0, 0, 0, 0⟩
theorem AEn : Arr 28 73 zEn.cells.toArray := ⟨.inr ⟨_, Tryz.underlying28⟩, by kernel_rfl, fun w => by kernel_rfl, fun w => by kernel_rfl, by rw [List.size_toArray, En.len]⟩
theorem AEr : Arr 37 73 zEn.cells.toArray := ⟨.inr ⟨_, Tryz.underlying37⟩, by kernel_rfl, fun w => by kernel_rfl, fun w => by kernel_rfl, by rw [List.size_toArray, En.len]⟩
theorem En.getT (x : En) (j : Nat) : x.cells[68 + j]? = x.tail[j]? := by
  rw [En.cells, List.getElem?_append_right (by rw [x.h.len]; omega), x.h.len, show 68 + j - 68 = j by omega]
theorem En.getH (x : En) (j : Nat) (v : Value) (hv : x.h.cells[j]? = some v) : x.cells[j]? = some v := by
  rw [En.cells, List.getElem?_append_left (List.getElem?_eq_some_iff.1 hv).1]
  exact hv
section
variable {W : World} {g off : Nat} (x : En) (r : W.rangeAt g off x.cells)
include r
theorem En.head : W.rangeAt g off x.h.cells := fun j v hv => r _ _ (x.getH j v hv)
theorem En.c0 : W.cell? ⟨g, off + 68, none⟩ = some (.int .i64 x.ht) := r 68 _ (x.getT 0)
theorem En.c1 : W.cell? ⟨g, off + 69, none⟩ = some (.int .i64 x.st) := r 69 _ (x.getT 1)
theorem En.c2 : W.cell? ⟨g, off + 70, none⟩ = some (.int .i64 x.fl) := r 70 _ (x.getT 2)
theorem En.c3 : W.cell? ⟨g, off + 71, none⟩ = some (.int .i64 x.pl) := r 71 _ (x.getT 3)
theorem En.c4 : W.cell? ⟨g, off + 72, none⟩ = some (.int .i64 x.lg) := r 72 _ (x.getT 4)
end
theorem En.row {W : World} {g : Nat} {t : TypeId} (x : En) (e : W.heap[g]? = some (.cells x.cells.toArray t (0, 0))) : W.rangeAt g 0 x.h.cells ∧ W.cell? ⟨g, 68, none⟩ = some (.int .i64 x.ht) ∧ W.cell? ⟨g, 69, none⟩ = some (.int .i64 x.st) ∧ W.cell? ⟨g, 70, none⟩ = some (.int .i64 x.fl) ∧ W.cell? ⟨g, 71, none⟩ = some (.int .i64 x.pl) ∧ W.cell? ⟨g, 72, none⟩ = some (.int .i64 x.lg) := by
  have r := rowAt x.cells e
  have h0 := x.c0 r
  have h1 := x.c1 r
  have h2 := x.c2 r
  have h3 := x.c3 r
  have h4 := x.c4 r
  rw [Nat.zero_add] at h0 h1 h2 h3 h4
  exact ⟨x.head r, h0, h1, h2, h3, h4⟩
/-- Is a number from 0 on, and not above the most? -/
def wi (n m : Int) : Bool := decide (0 ≤ n) && decide (n ≤ m)
/-- May an entry be? -/
def En.may (x : En) : Bool := wi x.ht 20000 && (wi x.st 15 && (wi x.fl 2147483647 && (wi x.pl 2147483647 && wi x.lg 2147483647)))
theorem orSI (x y i m : Nat) (hm : m = 2 ^ i) (hx : x < m) (hb : m * y + x < 4294967296) : bits .or .u32 (x : Int) ((y * m : Nat) : Int) = ((x + m * y : Nat) : Int) := by
  subst hm
  rw [or_nat32 _ _ (by omega) (by rw [Nat.mul_comm]; omega), Nat.or_comm, Nat.mul_comm y, ← Nat.two_pow_add_eq_or_of_lt hx, Nat.add_comm]
theorem take4I (a b c d : UInt8) : bits BinOp.or IntKind.u32 (bits BinOp.or IntKind.u32 (bits BinOp.or IntKind.u32 ((a.toNat : Int) % 4294967296) ((b.toNat : Int) % 4294967296 * 256 % 4294967296)) ((c.toNat : Int) % 4294967296 * 65536 % 4294967296)) ((d.toNat : Int) % 4294967296 * 16777216 % 4294967296) = ((leN [a, b, c, d] : Nat) : Int) := by
  have ha := a.toNat_lt
  have hb := b.toNat_lt
  have hc := c.toNat_lt
  have hd := d.toNat_lt
  rw [show (a.toNat : Int) % 4294967296 = (a.toNat : Int) by omega, show (b.toNat : Int) % 4294967296 * 256 % 4294967296 = ((b.toNat * 256 : Nat) : Int) by omega, show (c.toNat : Int) % 4294967296 * 65536 % 4294967296 = ((c.toNat * 65536 : Nat) : Int) by omega, show (d.toNat : Int) % 4294967296 * 16777216 % 4294967296 = ((d.toNat * 16777216 : Nat) : Int) by omega]
  rw [orSI a.toNat b.toNat 8 256 (by decide) (by omega) (by omega), orSI _ c.toNat 16 65536 (by decide) (by omega) (by omega), orSI _ d.toNat 24 16777216 (by decide) (by omega) (by omega)]
  simp only [leN]
  omega
theorem list4I (s : ByteArray) (hs : 4 ≤ s.size) : s.data.toList.take 4 = [s[0], s[1], s[2], s[3]] := by
  apply List.ext_getElem
  · simp; omega
  · intro i h1 h2
    have : i = 0 ∨ i = 1 ∨ i = 2 ∨ i = 3 := by simp at h2; omega
    rcases this with rfl | rfl | rfl | rfl <;> simp <;> rfl
section
set_option maxRecDepth 10000
set_option maxHeartbeats 4000000
theorem within_any (n m : Int) (w : World) : Calls Tryz.prog 68 #[.int .i64 n, .int .i64 m] w fun e w' => e = .returned (.bool (wi n m)) ∧ w' = w := by
  unfold wi
  by_cases h0 : 0 ≤ n
  · by_cases h1 : n ≤ m
    · rw [decide_eq_true h0, decide_eq_true h1]
      go_enter Tryz.func68, Tryz.ntmps68
      go_wp2
      go_ret
      exact ⟨rfl, rfl⟩
    · rw [decide_eq_true h0, decide_eq_false h1]
      go_enter Tryz.func68, Tryz.ntmps68
      go_wp2
      go_ret
      exact ⟨rfl, rfl⟩
  · rw [decide_eq_false h0]
    go_enter Tryz.func68, Tryz.ntmps68
    go_wp2
    go_ret
    exact ⟨rfl, rfl⟩
theorem small_any (n : Int) (w : World) : Calls Tryz.prog 41 #[.int .i64 n] w fun e w' => e = .returned (.bool (wi n 2147483647)) ∧ w' = w := by
  unfold wi
  by_cases h0 : 0 ≤ n
  · by_cases h1 : n ≤ 2147483647
    · have h2 : n < 2147483648 := by omega
      rw [decide_eq_true h0, decide_eq_true h1]
      clear h1
      go_enter Tryz.func41, Tryz.ntmps41
      go_wp2
      go_ret
      exact ⟨rfl, rfl⟩
    · have h2 : ¬ n < 2147483648 := by omega
      rw [decide_eq_true h0, decide_eq_false h1]
      clear h1
      go_enter Tryz.func41, Tryz.ntmps41
      go_wp2
      go_ret
      exact ⟨rfl, rfl⟩
  · rw [decide_eq_false h0]
    go_enter Tryz.func41, Tryz.ntmps41
    go_wp2
    go_ret
    exact ⟨rfl, rfl⟩
theorem four_any (s : ByteArray) (hs : 4 ≤ s.size) (w : World) : Calls Tryz.prog 36 #[.string s] w fun e w' => e = .returned (.int .i64 (leN (s.data.toList.take 4) : Int)) ∧ ∃ n, w' = w.drewN n := by
  have h1 : (0 : Int) < s.size := by omega
  have h2 : (1 : Int) < s.size := by omega
  have h3 : (2 : Int) < s.size := by omega
  have h4 : (3 : Int) < s.size := by omega
  have k1 : 0 < s.size := by omega
  have k2 : 1 < s.size := by omega
  have k3 : 2 < s.size := by omega
  have k4 : 3 < s.size := by omega
  have HL : Hid (leN (s.data.toList.take 4) < 4294967296) := leN_lt' _ 4 _ (by simp; omega) rfl
  have HT := hide (list4I s hs)
  go_enter Tryz.func36, Tryz.ntmps36
  go_wp2
  go_quiet (fail)
  go_wp2
  go_ret
  refine ⟨?_, _, rfl⟩
  show Ending.returned (.int .i64 (wrap64 _)) = _
  rw [take4I, ← HT.out]
  have := HL.out
  congr 2
  unfold wrap64
  omega
theorem mayBe_any (x : En) (w : World) : Calls Tryz.prog 32 #[.agg x.cells.toArray] w fun e w' => e = .returned (.bool x.may) ∧ Below w.heap.size w w' := by
  have b1 := (Below.refl w.heap.size w).alloc (Nat.le_refl _) (.cells x.cells.toArray 28)
  have B1 := hide b1
  have r1 := x.row (heap_alloc_last w (.cells x.cells.toArray 28))
  obtain ⟨-, c0, c1, c2, c3, c4⟩ := r1
  have H0 := hide (fun W => within_any x.ht 20000 W)
  have H1 := hide (fun W => within_any x.st 15 W)
  have H2 := hide (fun W => within_any x.fl 2147483647 W)
  have H3 := hide (fun W => within_any x.pl 2147483647 W)
  have H4 := hide (fun W => within_any x.lg 2147483647 W)
  unfold En.may
  clear b1
  generalize wi x.ht 20000 = m0 at *
  generalize wi x.st 15 = m1 at *
  generalize wi x.fl 2147483647 = m2 at *
  generalize wi x.pl 2147483647 = m3 at *
  generalize wi x.lg 2147483647 = m4 at *
  generalize x.ht = n0 at *
  generalize x.st = n1 at *
  generalize x.fl = n2 at *
  generalize x.pl = n3 at *
  generalize x.lg = n4 at *
  generalize x.cells.toArray = C at *
  go_enter Tryz.func32, Tryz.ntmps32
  go_upto_region 1 with ((with_reducible refine at_list ?_); refine wpList_boxA rfl _ rfl C rfl ?_)
  generalize w.alloc (.cells C 28) = W0 at *
  cases m0
  · go_wp2_with (first | (go_at_call_of 68 (Value.int .i64 n0); refine (H0.out _).mono ?_; rintro e W ⟨rfl, h9⟩; subst W) | (go_at_call_of 68 (Value.int .i64 n1); refine (H1.out _).mono ?_; rintro e W ⟨rfl, h9⟩; subst W) | (go_at_call_of 68 (Value.int .i64 n2); refine (H2.out _).mono ?_; rintro e W ⟨rfl, h9⟩; subst W) | (go_at_call_of 68 (Value.int .i64 n3); refine (H3.out _).mono ?_; rintro e W ⟨rfl, h9⟩; subst W) | (go_at_call_of 68 (Value.int .i64 n4); refine (H4.out _).mono ?_; rintro e W ⟨rfl, h9⟩; subst W))
    go_ret
    exact ⟨rfl, B1.out⟩
  cases m1
  · go_wp2_with (first | (go_at_call_of 68 (Value.int .i64 n0); refine (H0.out _).mono ?_; rintro e W ⟨rfl, h9⟩; subst W) | (go_at_call_of 68 (Value.int .i64 n1); refine (H1.out _).mono ?_; rintro e W ⟨rfl, h9⟩; subst W) | (go_at_call_of 68 (Value.int .i64 n2); refine (H2.out _).mono ?_; rintro e W ⟨rfl, h9⟩; subst W) | (go_at_call_of 68 (Value.int .i64 n3); refine (H3.out _).mono ?_; rintro e W ⟨rfl, h9⟩; subst W) | (go_at_call_of 68 (Value.int .i64 n4); refine (H4.out _).mono ?_; rintro e W ⟨rfl, h9⟩; subst W))
    go_ret
    exact ⟨rfl, B1.out⟩
  cases m2
  · go_wp2_with (first | (go_at_call_of 68 (Value.int .i64 n0); refine (H0.out _).mono ?_; rintro e W ⟨rfl, h9⟩; subst W) | (go_at_call_of 68 (Value.int .i64 n1); refine (H1.out _).mono ?_; rintro e W ⟨rfl, h9⟩; subst W) | (go_at_call_of 68 (Value.int .i64 n2); refine (H2.out _).mono ?_; rintro e W ⟨rfl, h9⟩; subst W) | (go_at_call_of 68 (Value.int .i64 n3); refine (H3.out _).mono ?_; rintro e W ⟨rfl, h9⟩; subst W) | (go_at_call_of 68 (Value.int .i64 n4); refine (H4.out _).mono ?_; rintro e W ⟨rfl, h9⟩; subst W))
    go_ret
    exact ⟨rfl, B1.out⟩
  cases m3
  · go_wp2_with (first | (go_at_call_of 68 (Value.int .i64 n0); refine (H0.out _).mono ?_; rintro e W ⟨rfl, h9⟩; subst W) | (go_at_call_of 68 (Value.int .i64 n1); refine (H1.out _).mono ?_; rintro e W ⟨rfl, h9⟩; subst W) | (go_at_call_of 68 (Value.int .i64 n2); refine (H2.out _).mono ?_; rintro e W ⟨rfl, h9⟩; subst W) | (go_at_call_of 68 (Value.int .i64 n3); refine (H3.out _).mono ?_; rintro e W ⟨rfl, h9⟩; subst W) | (go_at_call_of 68 (Value.int .i64 n4); refine (H4.out _).mono ?_; rintro e W ⟨rfl, h9⟩; subst W))
    go_ret
    exact ⟨rfl, B1.out⟩
  cases m4
  · go_wp2_with (first | (go_at_call_of 68 (Value.int .i64 n0); refine (H0.out _).mono ?_; rintro e W ⟨rfl, h9⟩; subst W) | (go_at_call_of 68 (Value.int .i64 n1); refine (H1.out _).mono ?_; rintro e W ⟨rfl, h9⟩; subst W) | (go_at_call_of 68 (Value.int .i64 n2); refine (H2.out _).mono ?_; rintro e W ⟨rfl, h9⟩; subst W) | (go_at_call_of 68 (Value.int .i64 n3); refine (H3.out _).mono ?_; rintro e W ⟨rfl, h9⟩; subst W) | (go_at_call_of 68 (Value.int .i64 n4); refine (H4.out _).mono ?_; rintro e W ⟨rfl, h9⟩; subst W))
    go_ret
    exact ⟨rfl, B1.out⟩
  go_wp2_with (first | (go_at_call_of 68 (Value.int .i64 n0); refine (H0.out _).mono ?_; rintro e W ⟨rfl, h9⟩; subst W) | (go_at_call_of 68 (Value.int .i64 n1); refine (H1.out _).mono ?_; rintro e W ⟨rfl, h9⟩; subst W) | (go_at_call_of 68 (Value.int .i64 n2); refine (H2.out _).mono ?_; rintro e W ⟨rfl, h9⟩; subst W) | (go_at_call_of 68 (Value.int .i64 n3); refine (H3.out _).mono ?_; rintro e W ⟨rfl, h9⟩; subst W) | (go_at_call_of 68 (Value.int .i64 n4); refine (H4.out _).mono ?_; rintro e W ⟨rfl, h9⟩; subst W))
  go_ret
  exact ⟨rfl, B1.out⟩
theorem rmay_any (x : En) (w : World) : Calls Tryz.prog 12 #[.agg x.cells.toArray] w fun e w' => e = .returned (.bool x.may) ∧ Below w.heap.size w w' := by
  have b1 := (Below.refl w.heap.size w).alloc (Nat.le_refl _) (.cells x.cells.toArray 37)
  have B1 := hide b1
  have r1 := x.row (heap_alloc_last w (.cells x.cells.toArray 37))
  obtain ⟨-, c0, c1, c2, c3, c4⟩ := r1
  have H2 := hide (fun W => small_any x.fl W)
  have H3 := hide (fun W => small_any x.pl W)
  have H4 := hide (fun W => small_any x.lg W)
  unfold En.may
  clear b1
  generalize wi x.fl 2147483647 = m2 at *
  generalize wi x.pl 2147483647 = m3 at *
  generalize wi x.lg 2147483647 = m4 at *
  unfold wi
  generalize x.ht = n0 at *
  generalize x.st = n1 at *
  generalize x.fl = n2 at *
  generalize x.pl = n3 at *
  generalize x.lg = n4 at *
  generalize x.cells.toArray = C at *
  generalize hA0 : decide (0 ≤ n0) = a0
  generalize hA1 : decide (n0 ≤ 20000) = a1
  generalize hA2 : decide (0 ≤ n1) = a2
  generalize hA3 : decide (n1 ≤ 15) = a3
  have d0 : decide (n0 ≥ 0) = a0 := hA0
  have d2 : decide (n1 ≥ 0) = a2 := hA2
  go_enter Tryz.func12, Tryz.ntmps12
  go_upto_region 1 with ((with_reducible refine at_list ?_); refine wpList_boxA rfl _ rfl C rfl ?_)
  generalize w.alloc (.cells C 37) = W0 at *
  cases a0
  · go_wp2_with (first | (go_at_call_of 41 (Value.int .i64 n2); refine (H2.out _).mono ?_; rintro e W ⟨rfl, h9⟩; subst W) | (go_at_call_of 41 (Value.int .i64 n3); refine (H3.out _).mono ?_; rintro e W ⟨rfl, h9⟩; subst W) | (go_at_call_of 41 (Value.int .i64 n4); refine (H4.out _).mono ?_; rintro e W ⟨rfl, h9⟩; subst W))
    go_ret
    exact ⟨rfl, B1.out⟩
  cases a1
  · go_wp2_with (first | (go_at_call_of 41 (Value.int .i64 n2); refine (H2.out _).mono ?_; rintro e W ⟨rfl, h9⟩; subst W) | (go_at_call_of 41 (Value.int .i64 n3); refine (H3.out _).mono ?_; rintro e W ⟨rfl, h9⟩; subst W) | (go_at_call_of 41 (Value.int .i64 n4); refine (H4.out _).mono ?_; rintro e W ⟨rfl, h9⟩; subst W))
    go_ret
    exact ⟨rfl, B1.out⟩
  cases a2
  · go_wp2_with (first | (go_at_call_of 41 (Value.int .i64 n2); refine (H2.out _).mono ?_; rintro e W ⟨rfl, h9⟩; subst W) | (go_at_call_of 41 (Value.int .i64 n3); refine (H3.out _).mono ?_; rintro e W ⟨rfl, h9⟩; subst W) | (go_at_call_of 41 (Value.int .i64 n4); refine (H4.out _).mono ?_; rintro e W ⟨rfl, h9⟩; subst W))
    go_ret
    exact ⟨rfl, B1.out⟩
  cases a3
  · go_wp2_with (first | (go_at_call_of 41 (Value.int .i64 n2); refine (H2.out _).mono ?_; rintro e W ⟨rfl, h9⟩; subst W) | (go_at_call_of 41 (Value.int .i64 n3); refine (H3.out _).mono ?_; rintro e W ⟨rfl, h9⟩; subst W) | (go_at_call_of 41 (Value.int .i64 n4); refine (H4.out _).mono ?_; rintro e W ⟨rfl, h9⟩; subst W))
    go_ret
    exact ⟨rfl, B1.out⟩
  cases m2
  · go_wp2_with (first | (go_at_call_of 41 (Value.int .i64 n2); refine (H2.out _).mono ?_; rintro e W ⟨rfl, h9⟩; subst W) | (go_at_call_of 41 (Value.int .i64 n3); refine (H3.out _).mono ?_; rintro e W ⟨rfl, h9⟩; subst W) | (go_at_call_of 41 (Value.int .i64 n4); refine (H4.out _).mono ?_; rintro e W ⟨rfl, h9⟩; subst W))
    go_ret
    exact ⟨rfl, B1.out⟩
  cases m3
  · go_wp2_with (first | (go_at_call_of 41 (Value.int .i64 n2); refine (H2.out _).mono ?_; rintro e W ⟨rfl, h9⟩; subst W) | (go_at_call_of 41 (Value.int .i64 n3); refine (H3.out _).mono ?_; rintro e W ⟨rfl, h9⟩; subst W) | (go_at_call_of 41 (Value.int .i64 n4); refine (H4.out _).mono ?_; rintro e W ⟨rfl, h9⟩; subst W))
    go_ret
    exact ⟨rfl, B1.out⟩
  cases m4
  · go_wp2_with (first | (go_at_call_of 41 (Value.int .i64 n2); refine (H2.out _).mono ?_; rintro e W ⟨rfl, h9⟩; subst W) | (go_at_call_of 41 (Value.int .i64 n3); refine (H3.out _).mono ?_; rintro e W ⟨rfl, h9⟩; subst W) | (go_at_call_of 41 (Value.int .i64 n4); refine (H4.out _).mono ?_; rintro e W ⟨rfl, h9⟩; subst W))
    go_ret
    exact ⟨rfl, B1.out⟩
  go_wp2_with (first | (go_at_call_of 41 (Value.int .i64 n2); refine (H2.out _).mono ?_; rintro e W ⟨rfl, h9⟩; subst W) | (go_at_call_of 41 (Value.int .i64 n3); refine (H3.out _).mono ?_; rintro e W ⟨rfl, h9⟩; subst W) | (go_at_call_of 41 (Value.int .i64 n4); refine (H4.out _).mono ?_; rintro e W ⟨rfl, h9⟩; subst W))
  go_ret
  exact ⟨rfl, B1.out⟩
end
end Go.Proofs.YtpffaaalncdjcaaGreatDoor
namespace Go.Proofs.YtpffaaalncdjcaaGreatDoor
open Go.RowKit
open Go.Deep
set_option linter.unusedVariables false
/-- v is a slice of the program's own bytes l, in whatever block. -/
def OB8 (w : World) (v : Value) (l : List UInt8) : Prop :=
  ∃ g o cap, v = .slice (some ⟨g, o, none⟩) l.length cap ∧ l.length ≤ cap ∧ w.rangeAt g o (cellsL l) ∧ w.there g o cap ∧ g < w.heap.size
theorem OB8.form {w : World} {v : Value} {l : List UInt8} (h : OB8 w v l) : ∃ ao cap, v = .slice ao l.length cap := by
  obtain ⟨g, o, cap, rfl, _⟩ := h
  exact ⟨_, _, rfl⟩
theorem OB8.below {w w' : World} {v : Value} {l : List UInt8} (h : OB8 w v l) (hb : Below w.heap.size w w') : OB8 w' v l := by
  obtain ⟨g, o, cap, rfl, hc, hr, ht, hg⟩ := h
  have e := hb.block g hg
  have := hb.size
  refine ⟨g, o, cap, rfl, hc, fun j v hv => ?_, fun j hj => ?_, by omega⟩
  · rw [World.cell?_of_block (a := ⟨g, o + j, none⟩) e]
    exact hr j v hv
  · rw [World.cell?_of_block (a := ⟨g, o + j, none⟩) e, World.frozen?_of_block (a := ⟨g, o + j, none⟩) e]
    exact ht j hj
theorem OB8.conv {w : World} {v : Value} {l : List UInt8} (h : OB8 w v l) : (convert 80 9 v).run Tryz.prog w = .ok (.string (txt l)) w := by
  obtain ⟨g, o, cap, rfl, hc, hr, ht, hg⟩ := h
  exact run_convert_bytes_back (P := Tryz.prog) w 80 9 5 ⟨g, o, none⟩ cap l Tryz.underlying80 Tryz.underlying5 Tryz.underlying9 (fun j hj => by
    rw [Addr.add_mid]
    refine hr j _ ?_
    rw [cellsL, List.getElem?_map, List.getElem?_eq_getElem hj]
    simp)
theorem setCells_grownI (b : Nat) : ∀ (vs : List Value) (o : Nat) (w : World), w.grownBy (w.setCells b o vs) (some b)
  | [], o, w => ⟨rfl, rfl, rfl, Nat.le_refl _, fun _ _ _ => rfl⟩
  | v :: r, o, w => by
    have h1 := setCell_grown w b o v
    have h2 := setCells_grownI b r (o + 1) (w.setCell ⟨b, o, none⟩ v)
    rw [World.setCells]
    have hs := h1.size
    exact ⟨h2.os.trans h1.os, h2.tape.trans h1.tape, h2.output.trans h1.output, Nat.le_trans hs h2.size, fun k hk hne => (h2.block k (by omega) hne).trans (h1.block k hk hne)⟩
theorem OB8.of_row {w : World} {g : Nat} {cur : Array Value} {l : List UInt8} {cap lo hi : Nat} (hg : w.heap[g]? = some (.cells cur 5 (lo, hi))) (hl : l.length ≤ cap) (hc : cap ≤ cur.size) (hlo : lo = 0 ∧ hi = 0 ∨ cur.size ≤ lo) (ht : cur.toList.take l.length = cellsL l) : OB8 w (.slice (some ⟨g, 0, none⟩) l.length cap) l := by
  refine ⟨g, 0, cap, rfl, hl, fun j v hv => ?_, fun j hj => ?_, lt_heap hg⟩
  · have hj : j < l.length := by
      have := (List.getElem?_eq_some_iff.1 hv).1
      rwa [cellsL_len] at this
    rw [cell_of_row w g _ cur _ _ hg, Nat.zero_add]
    rw [← ht, List.getElem?_take, if_pos hj] at hv
    simpa using hv
  · rw [cell_of_row w g _ cur _ _ hg, Nat.zero_add, Array.getElem?_eq_getElem (by omega)]
    refine ⟨rfl, ?_⟩
    unfold World.frozen?
    simp only [hg]
    rcases hlo with ⟨rfl, rfl⟩ | h
    · simp
    · simp only [Bool.and_eq_false_iff, decide_eq_false_iff_not]
      exact .inl (by omega)
/-- A text, turned into bytes of one's own. -/
theorem OB8.of_str (w : World) (s : ByteArray) : ∃ v w', (convert 9 80 (.string s)).run Tryz.prog w = .ok v w' ∧ OB8 w' v s.data.toList ∧ Below w.heap.size w w' ∧ v.ownBlock = some w.heap.size := by
  have h := run_bytes_of_string (P := Tryz.prog) w 9 80 5 s Tryz.underlying9 Tryz.underlying80 Tryz.underlying5
  have hge := grownCap_ge w s.size 0 5
  have hS : s.data.toList.length = s.size := by simp
  generalize grownCap w s.size 0 5 = gc at *
  refine ⟨_, _, h, ?_, (Below.refl _ _).drew.alloc (by simp) _, rfl⟩
  have e := heap_alloc_last w.drew (.cells (bytesRow s gc) 5 ((bytesRow s gc).size, (bytesRow s gc).size + 1))
  have hz : (bytesRow s gc).size = gc := by
    rw [bytesRow]
    simp
    have : s.data.size = s.size := rfl
    omega
  have := OB8.of_row (l := s.data.toList) (cap := gc) e (by rw [hS]; exact hge) (by rw [hz]; exact Nat.le_refl _) (.inr (Nat.le_refl _)) (by
    rw [bytesRow, Array.toList_append, List.take_append_of_le_length (by simp), List.take_of_length_le (by simp)]
    simp [cellsL])
  rwa [hS] at this
/-- Bytes behind it. -/
theorem OB8.app {w : World} {ty : TypeId} {v : Value} {l : List UInt8} (h : OB8 w v l) (ad : Addr) (m c : Nat) (news : List UInt8) (hm : m = news.length) (hnews : ∀ j u, (cellsL news)[j]? = some u → w.cell? (ad.add j) = some u) (hsm : l.length + m ≤ 1000000) :
    ∃ v' w', (Builtin.append_ #[80, 80] ty #[v, .slice (some ad) m c]).run Tryz.prog w = .ok v' w' ∧ OB8 w' v' (l ++ news) ∧ Onto w w' v v' := by
  obtain ⟨g, o, cap, rfl, hc, hr, ht, hg⟩ := h
  obtain ⟨i0, hi, hz0, hz1, hz2⟩ := info_parts info5
  have hSr : Src Tryz.prog i0.size 80 (.slice (some ad) m c) m (cellsL news) w := by
    rw [hz1]
    exact Src.ofSlice w Tryz.underlying80 ad m c (cellsL news) (by rw [cellsL_len, hm, Nat.mul_one]) hnews (fun u hu => by simp only [cellsL, List.mem_map] at hu; obtain ⟨b, _, rfl⟩ := hu; rfl)
  have hbl : (cellsL news).length = m := by rw [cellsL_len, hm]
  by_cases hroom : l.length + m ≤ cap
  · have hr2 := run_append_room_src (P := Tryz.prog) w 80 80 ty 5 i0 Tryz.underlying80 hi g o l.length cap (.slice (some ad) m c) m (cellsL news) hSr hroom
      (fun j hj => by rw [hz1, Nat.mul_one, Nat.add_assoc]; exact (ht (l.length + j) (by omega)).1)
      (fun j hj => by rw [hz1, Nat.mul_one, Nat.add_assoc]; exact (ht (l.length + j) (by omega)).2)
    rw [hz1, Nat.mul_one] at hr2
    have hth : w.there g (o + l.length) (cellsL news).length := fun j hj => by rw [Nat.add_assoc]; exact ht (l.length + j) (by omega)
    refine ⟨_, _, hr2, ⟨g, o, cap, by rw [List.length_append, hm], by rw [List.length_append, ← hm]; exact hroom, fun j v hv => ?_, World.there_setCells ht _ _ _, ?_⟩, ?_, .inl rfl⟩
    · rw [cellsL_app] at hv
      by_cases hj : j < l.length
      · rw [List.getElem?_append_left (by rw [cellsL_len]; exact hj)] at hv
        exact World.rangeAt_setCells_apart hr g (o + l.length) (cellsL news) (.inr (.inl (by rw [cellsL_len]; omega))) j v hv
      · rw [List.getElem?_append_right (by rw [cellsL_len]; omega), cellsL_len] at hv
        have := World.rangeAt_setCells_same w g (o + l.length) (cellsL news) hth (j - l.length) v hv
        rwa [show o + l.length + (j - l.length) = o + j by omega] at this
    · exact Nat.lt_of_lt_of_le hg (setCells_grownI g _ _ w).size
    · exact setCells_grownI g _ _ w
  · have hr2 := run_append_grow_src (P := Tryz.prog) w 80 80 ty 5 i0 (.int .u8 0) Tryz.underlying80 hi hz0 (some ⟨g, o, none⟩) l.length cap (cellsL l)
        (run_firstCells_some w.drew i0.size l.length ⟨g, o, none⟩ l.length cap (cellsL l) (by rw [hz1, cellsL_len, Nat.mul_one]) (fun j u hu => by rw [Addr.add_mid]; exact hr j u hu))
        (.slice (some ad) m c) m (cellsL news) hSr (by omega) (by omega) (growslice_fits (by omega) (by rw [hz2]; omega))
    have hge := grownCap_ge w (l.length + m) cap 5
    generalize grownCap w (l.length + m) cap 5 = gc at *
    refine ⟨_, _, hr2, ?_, ?_, .inr ⟨w.heap.size, rfl, Nat.le_refl _⟩⟩
    · have hz := heap_alloc_last w.drew (.cells ((cellsL l ++ cellsL news).toArray ++ Builtin.zeroCells (Value.int .u8 0).cells (gc - (l.length + m))) 5)
      have hzs : (Value.int IntKind.u8 0).cells.size = 1 := rfl
      have := OB8.of_row (l := l ++ news) (cap := gc) hz (by rw [List.length_append, ← hm]; exact hge) (by rw [Array.size_append, size_zeroCells, hzs, List.size_toArray, List.length_append, cellsL_len, hbl]; omega) (.inl ⟨rfl, rfl⟩) (by
        rw [Array.toList_append, List.length_append, ← hm, cellsL_app]
        rw [show ((cellsL l ++ cellsL news).toArray).toList = cellsL l ++ cellsL news from rfl]
        rw [List.take_append_of_le_length (by rw [List.length_append, cellsL_len, cellsL_len, hm]; exact Nat.le_refl _), List.take_of_length_le (by rw [List.length_append, cellsL_len, cellsL_len, hm]; exact Nat.le_refl _)])
      rwa [List.length_append, ← hm] at this
    · exact ⟨rfl, rfl, rfl, by simp, fun k hk _ => Below.heap_alloc _ _ _ hk⟩
theorem wpList_appO {w : World} {ops : Array Oper} {rest : List Oper} {o : Oper} {a : Act} {Q : Exit → Act → World → Prop} (hgd : o.guard = none) (s x : Operand)
    (ho : o.op = .call { callee := .builtin .append, args := #[s, x], argTypes := #[80, 80] })
    (v : Value) (l : List UInt8) (hs : a.eval s = v) (hown : OB8 w v l)
    (ad : Addr) (m c : Nat) (news : List UInt8) (hx : a.eval x = .slice (some ad) m c) (hm : m = news.length) (hnews : ∀ j u, (cellsL news)[j]? = some u → w.cell? (ad.add j) = some u) (hsm : l.length + m ≤ 1000000)
    (h : ∀ v' w', OB8 w' v' (l ++ news) → Onto w w' v v' → wpList Tryz.prog ops Q rest (a.put o.dst v') w') :
    wpList Tryz.prog ops Q (o :: rest) a w := by
  refine wpList_plain hgd fun K hK => ?_
  obtain ⟨v', w', hr, h2, h3⟩ := OB8.app (ty := o.type) hown ad m c news hm hnews hsm
  unfold Oper.wp execOp
  simp only [ho, resolve, invoke, builtin, Sem.run_bind, Sem.run_pure, Result.andThen_ok, List.map_toArray, List.map_cons, List.map_nil, hs, hx, hr]
  exact hK _ _ (h v' w' h2 h3)
theorem wpList_convO {w : World} {ops : Array Oper} {rest : List Oper} {o : Oper} {a : Act} {Q : Exit → Act → World → Prop} (hgd : o.guard = none) (x : Operand) (ho : o.op = .convert 9 80 x) (s : ByteArray) (hx : a.eval x = .string s)
    (h : ∀ v w', OB8 w' v s.data.toList → Below w.heap.size w w' → v.ownBlock = some w.heap.size → wpList Tryz.prog ops Q rest (a.put o.dst v) w') : wpList Tryz.prog ops Q (o :: rest) a w := by
  refine wpList_plain hgd fun K hK => ?_
  obtain ⟨v', w', hr, h2, h3, h4⟩ := OB8.of_str w s
  unfold Oper.wp execOp
  simp only [ho, hx, hr, Sem.run_bind, Sem.run_pure, Result.andThen_ok]
  exact hK _ _ (h v' w' h2 h3 h4)
theorem lowL4I (n : Nat) : lowL n 4 = [UInt8.ofNat (n % 256), UInt8.ofNat (n / 256 % 256), UInt8.ofNat (n / 65536 % 256), UInt8.ofNat (n / 16777216 % 256)] := by
  simp only [lowL, Nat.div_div_eq_div_mul]
end Go.Proofs.YtpffaaalncdjcaaGreatDoor
namespace Go.Proofs.YtpffaaalncdjcaaGreatDoor
open Go.RowKit
open Go.Deep
set_option linter.unusedVariables false
theorem four_new (w : World) (n : Nat) (hn : n < 2147483648) (x0 x1 x2 x3 : Int) (h0 : x0 = (n : Int) % 256) (h1 : x1 = (n : Int) / 256 % 256) (h2 : x2 = (n : Int) / 65536 % 256) (h3 : x3 = (n : Int) / 16777216 % 256) : ∀ j u, (cellsL (lowL n 4))[j]? = some u → (w.alloc (.cells #[.int .u8 x0, .int .u8 x1, .int .u8 x2, .int .u8 x3] 5)).cell? ((⟨w.heap.size, 0, none⟩ : Addr).add j) = some u := by
  intro j u hu
  rw [Addr.add_mid, Nat.zero_add, cell_of_row _ _ j _ _ _ (heap_alloc_last w _)]
  have e : cellsL (lowL n 4) = [.int .u8 x0, .int .u8 x1, .int .u8 x2, .int .u8 x3] := by
    subst h0 h1 h2 h3
    rw [lowL4I]
    simp only [cellsL, List.map_cons, List.map_nil, UInt8.toNat_ofNat']
    simp only [List.cons.injEq, Value.int.injEq, true_and, and_true]
    refine ⟨by omega, by omega, by omega, by omega⟩
  rw [e] at hu
  rw [List.getElem?_toArray]
  exact hu
/-- An entry's bytes. -/
def En.bytes (x : En) : List UInt8 := x.h.bytes ++ lowL x.ht.toNat 4 ++ [UInt8.ofNat x.st.toNat] ++ lowL x.fl.toNat 4 ++ lowL x.pl.toNat 4 ++ lowL x.lg.toNat 4
theorem En.bytes_len (x : En) : x.bytes.length = 97 := by
  rw [En.bytes]
  simp only [List.length_append, lowL_len, x.h.bytes_len, List.length_cons, List.length_nil]
theorem wi_iff {n m : Int} : wi n m = true ↔ 0 ≤ n ∧ n ≤ m := by
  unfold wi
  simp
theorem En.may_iff (x : En) : x.may = true ↔ (0 ≤ x.ht ∧ x.ht ≤ 20000) ∧ (0 ≤ x.st ∧ x.st ≤ 15) ∧ (0 ≤ x.fl ∧ x.fl ≤ 2147483647) ∧ (0 ≤ x.pl ∧ x.pl ≤ 2147483647) ∧ (0 ≤ x.lg ∧ x.lg ≤ 2147483647) := by
  rw [En.may, Bool.and_eq_true, Bool.and_eq_true, Bool.and_eq_true, Bool.and_eq_true, wi_iff, wi_iff, wi_iff, wi_iff, wi_iff]
/-- What is known while an entry's bytes are made. -/
structure Ibx (w W : World) (g : Nat) (x : En) (v : Value) (l : List UInt8) : Prop where
  row : W.heap[g]? = some (.cells x.cells.toArray 28 (0, 0))
  bel : Below w.heap.size w W
  own : OB8 W v l
  far : ∀ k, v.ownBlock = some k → w.heap.size ≤ k ∧ k ≠ g
theorem Ibx.onto {w W W' : World} {g : Nat} {x : En} {v v' : Value} {l l' : List UInt8} (h : Ibx w W g x v l) (on : Onto W W' v v') (ho : OB8 W' v' l') : Ibx w W' g x v' l' := by
  have h1 := h.bel.size
  have hg := lt_heap h.row
  refine ⟨(on.grown.block g hg (fun e => (h.far g e.symm).2 rfl)).trans h.row, h.bel.trans (on.below h1 fun k hk => (h.far k hk).1), ho, fun k hk => ?_⟩
  rcases on.lies with e | ⟨c, e, hc⟩
  · exact h.far k (by rw [← e]; exact hk)
  · rw [e] at hk
    cases hk
    exact ⟨by omega, by omega⟩
theorem Ibx.new {w W : World} {g : Nat} {x : En} {v : Value} {l : List UInt8} (h : Ibx w W g x v l) (o : Obj) : Ibx w (W.alloc o) g x v l :=
  ⟨(Below.heap_alloc _ _ _ (lt_heap h.row)).trans h.row, h.bel.alloc h.bel.size _, h.own.below ((Below.refl _ _).alloc (Nat.le_refl _) _), h.far⟩
theorem OB8.form2 {w : World} {v : Value} {l : List UInt8} (h : OB8 w v l) : ∃ ao n cap, v = .slice ao n cap ∧ Hid (n = l.length) := by
  obtain ⟨g, o, cap, rfl, _⟩ := h
  exact ⟨_, _, _, rfl, rfl⟩
section
set_option maxRecDepth 10000
set_option maxHeartbeats 4000000
theorem putFour_any (v : Value) (l : List UInt8) (n : Nat) (hn : n < 2147483648) (w : World) (h : OB8 w v l) (hl : l.length ≤ 100000) : Calls Tryz.prog 34 #[v, .int .i64 (n : Int)] w fun e w' => ∃ v', e = .returned v' ∧ OB8 w' v' (l ++ lowL n 4) ∧ Onto w w' v v' := by
  obtain ⟨ao, cap, rfl⟩ := h.form
  have HO := hide h
  have HL := hide hl
  have n0 : (0 : Int) ≤ (n : Int) := by omega
  have NN := hide hn
  have HZ : Hid ((lowL n 4).length = 4) := lowL_len n 4
  clear h hl hn
  go_enter Tryz.func34, Tryz.ntmps34
  go_upto_region 1 with fail
  have HN := hide (four_new w n NN.out _ _ _ _ rfl rfl rfl rfl)
  have HO2 := hide (HO.out.below ((Below.refl w.heap.size w).alloc (Nat.le_refl _) (.cells #[.int .u8 ((n : Int) % 256), .int .u8 ((n : Int) / 256 % 256), .int .u8 ((n : Int) / 65536 % 256), .int .u8 ((n : Int) / 16777216 % 256)] 5)))
  have ON := hide ((Onto.refl w (.slice ao l.length cap)).alloc (.cells #[.int .u8 ((n : Int) % 256), .int .u8 ((n : Int) / 256 % 256), .int .u8 ((n : Int) / 65536 % 256), .int .u8 ((n : Int) / 16777216 % 256)] 5))
  go_wp2_with ((with_reducible refine at_list ?_); refine wpList_appO rfl _ _ rfl (.slice ao l.length cap) l rfl HO2.out ⟨w.heap.size, 0, none⟩ 4 4 (lowL n 4) rfl HZ.out.symm HN.out (by have := HL.out; omega) ?_; intro v' w' ho2 hon; obtain ⟨ao', n', cap', rfl, hn'⟩ := ho2.form2; clear hn'; have HO3 := hide ho2; have HON := hide hon; clear ho2 hon)
  go_ret
  exact ⟨_, rfl, HO3.out, ON.out.trans HON.out⟩
theorem bytes_no (x : En) (hm : x.may = false) (w : World) : Calls Tryz.prog 7 #[.agg x.cells.toArray] w fun e w' => e = .returned (.tuple #[.string ⟨#[]⟩, .int .i64 130]) ∧ Below w.heap.size w w' := by
  have b1 := (Below.refl w.heap.size w).alloc (Nat.le_refl _) (.cells x.cells.toArray 28)
  have R1 := hide (heap_alloc_last w (.cells x.cells.toArray 28))
  have B1 := hide b1
  have HM := hide (fun W => mayBe_any x W)
  have HZ := hide x.size
  rw [hm] at HM
  clear b1 hm
  generalize x.cells.toArray = C at *
  go_enter Tryz.func7, Tryz.ntmps7
  go_upto_region 1 with ((with_reducible refine at_list ?_); refine wpList_boxA rfl _ rfl C rfl ?_)
  generalize w.alloc (.cells C 28) = W0 at *
  go_wp2_with (first | (go_at_call 32; refine (HM.out _).mono ?_; rintro e W1 ⟨rfl, be⟩; have D1 := hide be; clear be) | ((with_reducible refine at_list ?_); refine wpList_loadS AEn _ rfl w.heap.size rfl C HZ.out 28 R1.out (by rfl) ?_))
  go_ret2
  exact ⟨rfl, below_next B1.out D1.out⟩
theorem bytes_yes (x : En) (hm : x.may = true) (w : World) : Calls Tryz.prog 7 #[.agg x.cells.toArray] w fun e w' => e = .returned (.tuple #[.string (txt x.bytes), .int .i64 0]) ∧ Below w.heap.size w w' := by
  have b1 := (Below.refl w.heap.size w).alloc (Nat.le_refl _) (.cells x.cells.toArray 28)
  have R1 := hide (heap_alloc_last w (.cells x.cells.toArray 28))
  have B1 := hide b1
  have HM := hide (fun W => mayBe_any x W)
  have HH := hide (fun W => head_any x.h W)
  have HZ := hide x.size
  have HBL := hide x.h.bytes_len
  obtain ⟨⟨a0, a1⟩, ⟨d0, d1⟩, ⟨f0, f1⟩, ⟨p0, p1⟩, l0, l1⟩ := (x.may_iff).1 hm
  have HP : Hid (∀ (n : Int) v l W, 0 ≤ n → n ≤ 2147483647 → Ibx w W w.heap.size x v l → l.length ≤ 1000 → Calls Tryz.prog 34 #[v, .int .i64 n] W fun e w' => ∃ v', e = .returned v' ∧ Ibx w w' w.heap.size x v' (l ++ lowL n.toNat 4)) := fun n v l W h0 h1 h hl => by
    have := putFour_any v l n.toNat (by omega) W h.own (by omega)
    rw [Int.toNat_of_nonneg h0] at this
    refine this.mono ?_
    rintro e w' ⟨v', rfl, ho, hon⟩
    exact ⟨v', rfl, h.onto hon ho⟩
  have A0 := hide (And.intro a0 (show x.ht ≤ 2147483647 by omega))
  have F0 := hide (And.intro f0 f1)
  have P0 := hide (And.intro p0 p1)
  have L0 := hide (And.intro l0 l1)
  have SM : x.st % 256 = x.st := by omega
  have S8 : Hid (x.st = ((UInt8.ofNat x.st.toNat).toNat : Int)) := by
    show _ = _
    rw [UInt8.toNat_ofNat']
    omega
  have CC : Hid (∀ v l W, Ibx w W w.heap.size x v l → W.rangeAt w.heap.size 0 x.h.cells ∧ W.cell? ⟨w.heap.size, 68, none⟩ = some (.int .i64 x.ht) ∧ W.cell? ⟨w.heap.size, 69, none⟩ = some (.int .i64 x.st) ∧ W.cell? ⟨w.heap.size, 70, none⟩ = some (.int .i64 x.fl) ∧ W.cell? ⟨w.heap.size, 71, none⟩ = some (.int .i64 x.pl) ∧ W.cell? ⟨w.heap.size, 72, none⟩ = some (.int .i64 x.lg)) := fun v l W h => x.row h.row
  have rh := hide (x.row R1.out).1
  rw [hm] at HM
  clear b1 hm a0 a1 d0 d1 f0 f1 p0 p1 l0 l1
  generalize hC : x.cells.toArray = C at *
  have HC := hide hC
  clear hC
  go_enter Tryz.func7, Tryz.ntmps7
  go_upto_region 1 with ((with_reducible refine at_list ?_); refine wpList_boxA rfl _ rfl C rfl ?_)
  generalize w.alloc (.cells C 28) = W0 at *
  go_upto_region 3 with (first | (go_at_call 32; refine (HM.out _).mono ?_; rintro e W1 ⟨rfl, be⟩; have D1 := hide be; clear be) | ((with_reducible refine at_list ?_); refine wpList_loadS AEn _ rfl w.heap.size rfl C HZ.out 28 R1.out (by rfl) ?_))
  have R2 := hide ((D1.out.block _ (lt_heap R1.out)).trans R1.out)
  have rh2 := hide (x.row (by rw [HC.out]; exact R2.out)).1
  go_upto_region 4 with (first | (go_at_call 33; refine (HH.out _).mono ?_; rintro e W2 ⟨rfl, be⟩; have D2 := hide (below_next D1.out be); have R3 := hide ((be.block _ (lt_heap R2.out)).trans R2.out); clear be) | ((with_reducible refine at_list ?_); first | refine wpLoadHd _ rfl w.heap.size 0 rfl x.h rh2.out (by rfl) ?_ | (refine wpList_convO rfl _ rfl _ rfl ?_; intro v1 W3 ho1 hb1 hv1)))
  have J0 : Hid (Ibx w W3 w.heap.size x v1 x.h.bytes) := ⟨by rw [HC.out]; exact (hb1.block _ (lt_heap R3.out)).trans R3.out, below_next B1.out (below_next D2.out hb1), ho1, fun k hk => by
    rw [hv1] at hk
    cases hk
    have h5 := lt_heap R3.out
    omega⟩
  obtain ⟨ao, n1, cap, rfl, hn1⟩ := ho1.form2
  clear ho1 hb1 hv1 hn1 R1 R2 R3 rh rh2 D1 D2 HM HH
  have c := (CC.out _ _ _ J0.out).2.1
  go_upto_region 5 with (go_at_call 34; refine (HP.out x.ht _ _ _ A0.out.1 A0.out.2 J0.out (by rw [HBL.out]; omega)).mono ?_; rintro e W4 ⟨v', rfl, j1⟩; obtain ⟨ao', n', cap', rfl, hn'⟩ := j1.own.form2; clear hn'; have J1 := hide j1; clear j1)
  clear c J0
  have c := (CC.out _ _ _ J1.out).2.2.1
  have J1b := hide (J1.out.new (.cells #[.int .u8 x.st] 5))
  have ON1 := hide (one_new W4 x.st (UInt8.ofNat x.st.toNat) S8.out)
  go_upto_region 6 with ((with_reducible refine at_list ?_); refine wpList_appO rfl _ _ rfl _ _ rfl J1b.out.own ⟨W4.heap.size, 0, none⟩ 1 1 [UInt8.ofNat x.st.toNat] rfl rfl ON1.out (by rw [List.length_append, HBL.out, lowL_len]; omega) ?_; intro v' w' ho2 hon; obtain ⟨ao2, n2, cap2, rfl, hn2⟩ := ho2.form2; clear hn2; have J2 := hide (J1b.out.onto hon ho2); clear ho2 hon)
  clear c J1 J1b ON1
  have c := (CC.out _ _ _ J2.out).2.2.2.1
  go_upto_region 7 with (go_at_call 34; refine (HP.out x.fl _ _ _ F0.out.1 F0.out.2 J2.out (by rw [List.length_append, List.length_append, HBL.out, lowL_len]; simp)).mono ?_; rintro e W6 ⟨v', rfl, j1⟩; obtain ⟨ao', n', cap', rfl, hn'⟩ := j1.own.form2; clear hn'; have J3 := hide j1; clear j1)
  clear c J2
  have c := (CC.out _ _ _ J3.out).2.2.2.2.1
  go_upto_region 8 with (go_at_call 34; refine (HP.out x.pl _ _ _ P0.out.1 P0.out.2 J3.out (by rw [List.length_append, List.length_append, List.length_append, HBL.out, lowL_len, lowL_len]; simp)).mono ?_; rintro e W7 ⟨v', rfl, j1⟩; obtain ⟨ao', n', cap', rfl, hn'⟩ := j1.own.form2; clear hn'; have J4 := hide j1; clear j1)
  clear c J3
  have c := (CC.out _ _ _ J4.out).2.2.2.2.2
  go_upto_region 9 with (go_at_call 34; refine (HP.out x.lg _ _ _ L0.out.1 L0.out.2 J4.out (by rw [List.length_append, List.length_append, List.length_append, List.length_append, HBL.out, lowL_len, lowL_len, lowL_len]; simp)).mono ?_; rintro e W8 ⟨v', rfl, j1⟩; obtain ⟨ao', n', cap', rfl, hn'⟩ := j1.own.form2; clear hn'; have J5 := hide j1; clear j1)
  clear c J4
  have J6 : Hid (Ibx w W8 w.heap.size x (.slice ao' n' cap') x.bytes) := J5.out
  have hcv := J6.out.own.conv
  clear J5
  go_wp2
  go_ret2
  exact ⟨rfl, J6.out.bel⟩
end
end Go.Proofs.YtpffaaalncdjcaaGreatDoor
