/- The contract of the law's put: what a writer is given, and what it must put. -/
import Derived.Test.YtnmffnefkokkeaaH
import Derived.Deep.WholeRow
import Derived.Deep.RegionHeld3
namespace Go.Proofs.Ytnmffnefkokkeaa
open Go.RowKit

theorem lowL_mod (n k m : Nat) (h : 256 ^ k ∣ m) : lowL (n % m) k = lowL n k := by
  induction k generalizing n m with
  | zero => rfl
  | succ k ih =>
    have h256 : 256 ∣ m := Nat.dvd_trans ⟨256 ^ k, by rw [Nat.pow_succ, Nat.mul_comm]⟩ h
    simp only [lowL]
    rw [Nat.mod_mod_of_dvd n h256]
    obtain ⟨c, rfl⟩ := h256
    rw [Nat.mod_mul_right_div_self]
    congr 1
    apply ih
    rw [Nat.pow_succ, Nat.mul_comm] at h
    exact Nat.dvd_of_mul_dvd_mul_left (by decide) h
theorem lowL_swap (n : Nat) (h : n < 65536) : lowL (n % 256 * 256 + n / 256) 2 = (lowL n 2).reverse := by
  simp only [lowL, List.reverse_cons, List.reverse_nil, List.nil_append, List.cons_append]
  rw [show (n % 256 * 256 + n / 256) % 256 = n / 256 % 256 by omega, show (n % 256 * 256 + n / 256) / 256 = n % 256 by omega, Nat.mod_mod]

def hashL (n : Nat) : List UInt8 := UInt8.ofNat n :: 7 :: List.replicate 30 0
theorem hashL_len (n : Nat) : (hashL n).length = 32 := by simp [hashL]
/-- What is put. -/
def putL (kind n : Int) (x : Nat) (s : ByteArray) : List UInt8 :=
  if kind = 0 then lowL x 1 else if kind = 1 then lowL x 2 else if kind = 2 then lowL x 4 else if kind = 3 then lowL x 8 else if kind = 4 then (lowL x 2).reverse else
  if kind = 5 then countL x else if kind = 6 then s.data.toList else if kind = 7 then countL s.size ++ s.data.toList else if kind = 8 then hashL (n % 256).toNat else lowL (x % 2) 1

theorem Wst.new_kept {w W w4 : World} {p : Value} {l : List UInt8} (h : Wst w p l) (hb : Below w.heap.size w W) (hw : Wfr W w4 p) (k : Nat) (h1 : w.heap.size ≤ k) (h2 : k < W.heap.size) : w4.heap[k]? = W.heap[k]? := by
  refine hw.block k h2 ?_ ?_
  all_goals rcases h with rfl | ⟨b, v, rfl, hc, hf, ho, hne⟩
  · simp [blkOf]
  · have hlt : b < w.heap.size := block_lt_of_cell hc
    simp only [blkOf, ne_eq, Option.some.injEq]
    omega
  · simp [rowOf]
  · have hlt : b < w.heap.size := block_lt_of_cell hc
    simp only [rowOf]
    rw [hb.cell (p := ⟨b, 0, none⟩) hlt, hc]
    intro e
    have := (World.ownsRow.lt ho k (by simpa using e)).2
    omega

theorem run_buildH (w : World) (x : Int) (m : Nat) (hm : m < 256) (hx : x = m) : (Instr.build 33 #[(0, .int .u8 x), (1, .int .u8 7)]).run Try.prog w = .ok (.agg (hc (hashL m))) w := by
  have e : x = ((UInt8.ofNat m).toNat : Int) := by rw [UInt8.toNat_ofNat']; omega
  rw [e]
  show _ = Result.ok (Value.agg (hc (UInt8.ofNat m :: 7 :: List.replicate 30 0))) w
  generalize UInt8.ofNat m = b
  kernel_rfl
theorem wpList_buildH {w : World} {ops : Array Oper} {rest : List Oper} {o : Oper} {a : Act} {Q : Exit → Act → World → Prop} (hgd : o.guard = none) (x y : Operand) (ho : o.op = .build 33 #[(0, x), (1, y)]) (z : Int) (hx : a.eval x = .int .u8 z) (hy : a.eval y = .int .u8 7) (m : Nat) (hm : m < 256) (hz : z = m)
    (h : wpList Try.prog ops Q rest (a.put o.dst (.agg (hc (hashL m)))) w) : wpList Try.prog ops Q (o :: rest) a w := by
  refine wpList_plain hgd fun K hK => ?_
  unfold Oper.wp execOp
  simp only [ho, List.map_toArray, List.map_cons, List.map_nil, hx, hy, run_buildH w z m hm hz, Sem.run_bind, Result.andThen_ok, Sem.run_pure]
  exact hK _ _ h
theorem wpList_store33_new {w : World} {l0 : List UInt8} {ops : Array Oper} {rest : List Oper} {o : Oper} {a : Act} {Q : Exit → Act → World → Prop} (hgd : o.guard = none) (x y : Operand) (ho : o.op = .store 33 x y)
    (g : Nat) (hgw : g = w.heap.size) (l : List UInt8) (hl : l.length = 32) (hx : a.eval x = .pointer (some ⟨g, 0, none⟩)) (hy : a.eval y = .agg (hc l)) (hl0 : l0.length = 32)
    (h : wpList Try.prog ops Q rest (a.put o.dst undef) (w.alloc (.cells (hc l) 33))) : wpList Try.prog ops Q (o :: rest) a (w.alloc (.cells (hc l0) 33)) := by
  subst hgw
  refine wpList_store33 hgd x y ho w.heap.size l hl hx hy l0 hl0 33 (heap_alloc_new w _) ?_
  rw [World.setRow_alloc_new]
  exact h
/-- The act and the hash of put, behind a call of the writer's. -/
theorem put_kept {w w4 : World} {p : Value} {l : List UInt8} (h : Wst w p l) {a b c d : Value} {hh : List UInt8} (hw : Wfr ((w.alloc (.cells #[a, b, c, d] 54)).alloc (.cells (hc hh) 33)) w4 p) :
    w4.cell? ⟨w.heap.size, 2, none⟩ = some c ∧ w4.cell? ⟨w.heap.size, 3, none⟩ = some d ∧ w4.heap[w.heap.size + 1]? = some (.cells (hc hh) 33 (0, 0)) := by
  have hb : Below w.heap.size w ((w.alloc (.cells #[a, b, c, d] 54)).alloc (.cells (hc hh) 33)) := ((Below.refl _ _).alloc (Nat.le_refl _) _).alloc (by simp) _
  have h0 := h.new_kept hb hw w.heap.size (Nat.le_refl _) (by simp; omega)
  have h1 := h.new_kept hb hw (w.heap.size + 1) (by omega) (by simp)
  rw [heap_alloc2_old] at h0
  rw [heap_alloc2_new] at h1
  exact ⟨by rw [cell_of_row w4 _ 2 _ _ _ h0]; rfl, by rw [cell_of_row w4 _ 3 _ _ _ h0]; rfl, h1⟩
theorem two_below (w : World) (A B : Obj) : Below w.heap.size w ((w.alloc A).alloc B) := ((Below.refl _ _).alloc (Nat.le_refl _) _).alloc (by simp) _

section
set_option maxRecDepth 10000
theorem turn_step (s : ByteArray) (j : Nat) (h : j < s.size) : (⟨(s.data.toList.drop (j + 1)).reverse.toArray⟩ : ByteArray) ++ s.extract j (j + 1) = ⟨(s.data.toList.drop j).reverse.toArray⟩ := by
  have e : s.data.toList.drop j = s[j] :: s.data.toList.drop (j + 1) := by
    rw [List.drop_eq_getElem_cons (by simpa using h)]; rfl
  rw [e]
  apply ByteArray.ext
  apply Array.ext'
  simp
  rw [e]
  rfl
theorem turned_any (s : ByteArray) (hs : s.size ≤ maxLen) (w : World) : Calls Try.prog 21 #[.string s] w fun e w' => e = .returned (.string ⟨s.data.toList.reverse.toArray⟩) ∧ w' = w := by
  unfold maxLen at hs
  go_enter Try.func21, Try.ntmps21
  go_wp2
  go_loop [3, 4] (fun o i => ∃ k : Nat, k ≤ s.size ∧ i = .int .i64 ((k : Int) - 1) ∧ o = .string ⟨(s.data.toList.drop k).reverse.toArray⟩) (fun _ i => (intOf i + 1).toNat)
  case atStart => exact ⟨s.size, Nat.le_refl _, rfl, by rw [List.drop_of_length_le (by simp)]; rfl⟩
  case round =>
    obtain ⟨k, hk, rfl, rfl⟩ := hrel
    by_cases hlt : 0 < k
    · obtain ⟨j, rfl⟩ : ∃ j, k = j + 1 := ⟨k - 1, by omega⟩
      have hz : (⟨(s.data.toList.drop (j + 1)).reverse.toArray⟩ : ByteArray).size = s.size - (j + 1) := by
        show (s.data.toList.drop (j + 1)).reverse.toArray.size = _
        simp
      have hstep := turn_step s j (by omega)
      go_wp2
      exact ⟨⟨j, by omega, rfl, rfl⟩, by simp [intOf]⟩
    · go_wp2
      go_ret
      exact ⟨by rw [show k = 0 by omega]; rfl, rfl⟩
theorem put_0 (p : Value) (l : List UInt8) (n : Int) (x : Nat) (s : ByteArray) (hx : U64 x) (w : World) (hl : l.length ≤ 35184372088832) (h : Wst w p l) :
    Calls Try.prog 30 #[p, .agg #[.int .i64 0, .int .i64 n, .int .u64 x, .string s]] w fun e w' => e = .returned (.string ⟨(lowL x 1).toArray⟩) ∧ Wst w' p (l ++ lowL x 1) ∧ Wfr w w' p := by
  have hlm : Hid (lowL (x % 256) 1 = lowL x 1) := lowL_mod x 1 256 (by decide)
  go_enter Try.func30, Try.ntmps30
  go_wp2_with (first | refine wpList_alloc33 rfl rfl ?_ | (refine wpList_buildH rfl _ _ rfl _ rfl rfl (n % 256).toNat (by omega) (by omega) ?_) | (refine wpList_store33_new rfl _ _ rfl _ (by simp) _ (hashL_len _) rfl rfl zeros_len ?_))
  refine (wByte p l (x % 256) (by omega) _ hl (h.below (two_below _ _ _))).mono ?_
  rintro e w1 ⟨rfl, hw1, hw2⟩
  obtain ⟨c2, c3, hh⟩ := put_kept h hw2
  go_wp2_with (go_at_call 48; refine (low_any x 1 1 rfl hx _ (by omega)).mono ?_; rintro e w2 ⟨rfl, hb⟩)
  go_ret
  rw [hlm.out] at hw1
  exact ⟨rfl, hw1.below hb, ((Wfr.of_below h (two_below _ _ _)).trans hw2).trans (Wfr.of_below hw1 hb)⟩
theorem put_1 (p : Value) (l : List UInt8) (n : Int) (x : Nat) (s : ByteArray) (hx : U64 x) (w : World) (hl : l.length ≤ 35184372088832) (h : Wst w p l) :
    Calls Try.prog 30 #[p, .agg #[.int .i64 1, .int .i64 n, .int .u64 x, .string s]] w fun e w' => e = .returned (.string ⟨(lowL x 2).toArray⟩) ∧ Wst w' p (l ++ (lowL x 2)) ∧ Wfr w w' p := by
  have hlm : Hid (lowL (x % 65536) 2 = lowL x 2) := lowL_mod x 2 65536 (by decide)
  go_enter Try.func30, Try.ntmps30
  go_wp2_with (first | refine wpList_alloc33 rfl rfl ?_ | (refine wpList_buildH rfl _ _ rfl _ rfl rfl (n % 256).toNat (by omega) (by omega) ?_) | (refine wpList_store33_new rfl _ _ rfl _ (by simp) _ (hashL_len _) rfl rfl zeros_len ?_))
  refine (wU16 p l (x % 65536) (by omega) _ hl (h.below (two_below _ _ _))).mono ?_
  rintro e w1 ⟨rfl, hw1, hw2⟩
  obtain ⟨c2, c3, hh⟩ := put_kept h hw2
  go_wp2_with (go_at_call 48; refine (low_any x 2 2 rfl hx _ (by omega)).mono ?_; rintro e w2 ⟨rfl, hb⟩)
  go_ret
  rw [hlm.out] at hw1
  exact ⟨rfl, hw1.below hb, ((Wfr.of_below h (two_below _ _ _)).trans hw2).trans (Wfr.of_below hw1 hb)⟩
theorem put_2 (p : Value) (l : List UInt8) (n : Int) (x : Nat) (s : ByteArray) (hx : U64 x) (w : World) (hl : l.length ≤ 35184372088832) (h : Wst w p l) :
    Calls Try.prog 30 #[p, .agg #[.int .i64 2, .int .i64 n, .int .u64 x, .string s]] w fun e w' => e = .returned (.string ⟨(lowL x 4).toArray⟩) ∧ Wst w' p (l ++ (lowL x 4)) ∧ Wfr w w' p := by
  have hlm : Hid (lowL (x % 4294967296) 4 = lowL x 4) := lowL_mod x 4 4294967296 (by decide)
  go_enter Try.func30, Try.ntmps30
  go_wp2_with (first | refine wpList_alloc33 rfl rfl ?_ | (refine wpList_buildH rfl _ _ rfl _ rfl rfl (n % 256).toNat (by omega) (by omega) ?_) | (refine wpList_store33_new rfl _ _ rfl _ (by simp) _ (hashL_len _) rfl rfl zeros_len ?_))
  refine (wU32 p l (x % 4294967296) (by omega) _ hl (h.below (two_below _ _ _))).mono ?_
  rintro e w1 ⟨rfl, hw1, hw2⟩
  obtain ⟨c2, c3, hh⟩ := put_kept h hw2
  go_wp2_with (go_at_call 48; refine (low_any x 4 4 rfl hx _ (by omega)).mono ?_; rintro e w2 ⟨rfl, hb⟩)
  go_ret
  rw [hlm.out] at hw1
  exact ⟨rfl, hw1.below hb, ((Wfr.of_below h (two_below _ _ _)).trans hw2).trans (Wfr.of_below hw1 hb)⟩
theorem put_3 (p : Value) (l : List UInt8) (n : Int) (x : Nat) (s : ByteArray) (hx : U64 x) (w : World) (hl : l.length ≤ 35184372088832) (h : Wst w p l) :
    Calls Try.prog 30 #[p, .agg #[.int .i64 3, .int .i64 n, .int .u64 x, .string s]] w fun e w' => e = .returned (.string ⟨(lowL x 8).toArray⟩) ∧ Wst w' p (l ++ (lowL x 8)) ∧ Wfr w w' p := by
  go_enter Try.func30, Try.ntmps30
  go_wp2_with (first | refine wpList_alloc33 rfl rfl ?_ | (refine wpList_buildH rfl _ _ rfl _ rfl rfl (n % 256).toNat (by omega) (by omega) ?_) | (refine wpList_store33_new rfl _ _ rfl _ (by simp) _ (hashL_len _) rfl rfl zeros_len ?_))
  refine (wU64 p l x hx _ hl (h.below (two_below _ _ _))).mono ?_
  rintro e w1 ⟨rfl, hw1, hw2⟩
  obtain ⟨c2, c3, hh⟩ := put_kept h hw2
  go_wp2_with (go_at_call 48; refine (low_any x 8 8 rfl hx _ (by omega)).mono ?_; rintro e w2 ⟨rfl, hb⟩)
  go_ret
  exact ⟨rfl, hw1.below hb, ((Wfr.of_below h (two_below _ _ _)).trans hw2).trans (Wfr.of_below hw1 hb)⟩
theorem put_4 (p : Value) (l : List UInt8) (n : Int) (x : Nat) (s : ByteArray) (hx : U64 x) (w : World) (hl : l.length ≤ 35184372088832) (h : Wst w p l) :
    Calls Try.prog 30 #[p, .agg #[.int .i64 4, .int .i64 n, .int .u64 x, .string s]] w fun e w' => e = .returned (.string ⟨((lowL x 2).reverse).toArray⟩) ∧ Wst w' p (l ++ ((lowL x 2).reverse)) ∧ Wfr w w' p := by
  have hlm : Hid (lowL (x % 65536 % 256 * 256 + x % 65536 / 256) 2 = (lowL x 2).reverse) := by
    have := lowL_swap (x % 65536) (by omega)
    rwa [lowL_mod x 2 65536 (by decide)] at this
  have hz : (⟨(lowL x 2).toArray⟩ : ByteArray).size ≤ maxLen := by
    show (lowL x 2).toArray.size ≤ maxLen
    simp only [List.size_toArray, lowL_len]
    unfold maxLen
    omega
  go_enter Try.func30, Try.ntmps30
  go_wp2_with (first | refine wpList_alloc33 rfl rfl ?_ | (refine wpList_buildH rfl _ _ rfl _ rfl rfl (n % 256).toNat (by omega) (by omega) ?_) | (refine wpList_store33_new rfl _ _ rfl _ (by simp) _ (hashL_len _) rfl rfl zeros_len ?_))
  refine (wBig p l (x % 65536) (by omega) _ hl (h.below (two_below _ _ _))).mono ?_
  rintro e w1 ⟨rfl, hw1, hw2⟩
  obtain ⟨c2, c3, hh⟩ := put_kept h hw2
  go_wp2_with (first | (go_at_call 48; refine (low_any x 2 2 rfl hx _ (by omega)).mono ?_; rintro e w2 ⟨rfl, hb⟩) | (go_at_call 21; refine (turned_any _ hz _).mono ?_; rintro e w3 ⟨rfl, rfl⟩))
  go_ret
  rw [hlm.out] at hw1
  exact ⟨rfl, hw1.below hb, ((Wfr.of_below h (two_below _ _ _)).trans hw2).trans (Wfr.of_below hw1 hb)⟩
theorem put_5 (p : Value) (l : List UInt8) (n : Int) (x : Nat) (s : ByteArray) (hx : U64 x) (w : World) (hl : l.length ≤ 35184372088832) (h : Wst w p l) :
    Calls Try.prog 30 #[p, .agg #[.int .i64 5, .int .i64 n, .int .u64 x, .string s]] w fun e w' => e = .returned (.string ⟨(countL x).toArray⟩) ∧ Wst w' p (l ++ (countL x)) ∧ Wfr w w' p := by
  go_enter Try.func30, Try.ntmps30
  go_wp2_with (first | refine wpList_alloc33 rfl rfl ?_ | (refine wpList_buildH rfl _ _ rfl _ rfl rfl (n % 256).toNat (by omega) (by omega) ?_) | (refine wpList_store33_new rfl _ _ rfl _ (by simp) _ (hashL_len _) rfl rfl zeros_len ?_))
  refine (wCount p l x hx _ hl (h.below (two_below _ _ _))).mono ?_
  rintro e w1 ⟨rfl, hw1, hw2⟩
  obtain ⟨c2, c3, hh⟩ := put_kept h hw2
  go_wp2_with (go_at_call 10; refine (rcount_any x hx _).mono ?_; rintro e w2 ⟨rfl, hb⟩)
  go_ret
  exact ⟨rfl, hw1.below hb, ((Wfr.of_below h (two_below _ _ _)).trans hw2).trans (Wfr.of_below hw1 hb)⟩
theorem put_6 (p : Value) (l : List UInt8) (n : Int) (x : Nat) (s : ByteArray) (hs : Hid (p = .pointer none ∨ s.size ≤ 35184372088832)) (w : World) (hl : l.length ≤ 35184372088832) (h : Wst w p l) :
    Calls Try.prog 30 #[p, .agg #[.int .i64 6, .int .i64 n, .int .u64 x, .string s]] w fun e w' => e = .returned (.string ⟨(s.data.toList).toArray⟩) ∧ Wst w' p (l ++ (s.data.toList)) ∧ Wfr w w' p := by
  go_enter Try.func30, Try.ntmps30
  go_wp2_with (first | refine wpList_alloc33 rfl rfl ?_ | (refine wpList_buildH rfl _ _ rfl _ rfl rfl (n % 256).toNat (by omega) (by omega) ?_) | (refine wpList_store33_new rfl _ _ rfl _ (by simp) _ (hashL_len _) rfl rfl zeros_len ?_))
  refine (wBytes p l s hs.out _ (by omega) (h.below (two_below _ _ _))).mono ?_
  rintro e w1 ⟨rfl, hw1, hw2⟩
  obtain ⟨c2, c3, hh⟩ := put_kept h hw2
  go_wp2
  go_ret
  exact ⟨rfl, hw1, (Wfr.of_below h (two_below _ _ _)).trans hw2⟩
theorem put_8 (p : Value) (l : List UInt8) (n : Int) (x : Nat) (s : ByteArray) (w : World) (hl : l.length ≤ 35184372088832) (h : Wst w p l) :
    Calls Try.prog 30 #[p, .agg #[.int .i64 8, .int .i64 n, .int .u64 x, .string s]] w fun e w' => e = .returned (.string ⟨(hashL (n % 256).toNat).toArray⟩) ∧ Wst w' p (l ++ (hashL (n % 256).toNat)) ∧ Wfr w w' p := by
  go_enter Try.func30, Try.ntmps30
  go_wp2_with (first | refine wpList_alloc33 rfl rfl ?_ | (refine wpList_buildH rfl _ _ rfl _ rfl rfl (n % 256).toNat (by omega) (by omega) ?_) | (refine wpList_store33_new rfl _ _ rfl _ (by simp) _ (hashL_len _) rfl rfl zeros_len ?_) | (refine wpList_load33 rfl _ rfl (w.heap.size + 1) rfl (hashL (n % 256).toNat) (hashL_len _) 33 (heap_alloc2_new w _ _) ?_))
  refine (wHash p l _ (hashL_len _) _ hl (h.below (two_below _ _ _))).mono ?_
  rintro e w1 ⟨rfl, hw1, hw2⟩
  obtain ⟨c2, c3, hh⟩ := put_kept h hw2
  have hcv := conv33 w1 (w.heap.size + 1) _ (hashL_len _) 33 hh
  go_wp2
  go_ret
  exact ⟨rfl, hw1, (Wfr.of_below h (two_below _ _ _)).trans hw2⟩
theorem put_9 (p : Value) (l : List UInt8) (n : Int) (x : Nat) (s : ByteArray) (kind : Int) (hk : ¬ (0 ≤ kind ∧ kind ≤ 8)) (w : World) (hl : l.length ≤ 35184372088832) (h : Wst w p l) :
    Calls Try.prog 30 #[p, .agg #[.int .i64 kind, .int .i64 n, .int .u64 x, .string s]] w fun e w' => e = .returned (.string ⟨(lowL (x % 2) 1).toArray⟩) ∧ Wst w' p (l ++ (lowL (x % 2) 1)) ∧ Wfr w w' p := by
  have k0 : (kind == 0) = false := beq_eq_false_iff_ne.2 (by omega)
  have k1 : (kind == 1) = false := beq_eq_false_iff_ne.2 (by omega)
  have k2 : (kind == 2) = false := beq_eq_false_iff_ne.2 (by omega)
  have k3 : (kind == 3) = false := beq_eq_false_iff_ne.2 (by omega)
  have k4 : (kind == 4) = false := beq_eq_false_iff_ne.2 (by omega)
  have k5 : (kind == 5) = false := beq_eq_false_iff_ne.2 (by omega)
  have k6 : (kind == 6) = false := beq_eq_false_iff_ne.2 (by omega)
  have k7 : (kind == 7) = false := beq_eq_false_iff_ne.2 (by omega)
  have k8 : (kind == 8) = false := beq_eq_false_iff_ne.2 (by omega)
  have hlm : Hid (lowL (if ((x : Int) % 2 == 1) then 1 else 0) 1 = lowL (x % 2) 1) := by
    unfold Hid
    by_cases e : x % 2 = 1
    · have e' : ((x : Int) % 2 == 1) = true := beq_iff_eq.2 (by omega)
      rw [e', e]; rfl
    · have e' : ((x : Int) % 2 == 1) = false := beq_eq_false_iff_ne.2 (by omega)
      rw [e', show x % 2 = 0 by omega]; rfl
  have hx2 : U64 (x % 2) := by unfold U64; omega
  clear hk
  go_enter Try.func30, Try.ntmps30
  go_wp2_with (first | refine wpList_alloc33 rfl rfl ?_ | (refine wpList_buildH rfl _ _ rfl _ rfl rfl (n % 256).toNat (by omega) (by omega) ?_) | (refine wpList_store33_new rfl _ _ rfl _ (by simp) _ (hashL_len _) rfl rfl zeros_len ?_))
  refine (wBool p l _ _ hl (h.below (two_below _ _ _))).mono ?_
  rintro e w1 ⟨rfl, hw1, hw2⟩
  obtain ⟨c2, c3, hh⟩ := put_kept h hw2
  go_wp2_with (go_at_call 48; refine (low_any (x % 2) 1 1 rfl hx2 _ (by omega)).mono ?_; rintro e w2 ⟨rfl, hb⟩)
  go_ret
  rw [hlm.out] at hw1
  exact ⟨rfl, hw1.below hb, ((Wfr.of_below h (two_below _ _ _)).trans hw2).trans (Wfr.of_below hw1 hb)⟩
end
end Go.Proofs.Ytnmffnefkokkeaa
