/- Journals: what is read of bytes: HasPrefix, takeHead, takeRecord. Journals: the records that are whole, from the front on. -/
import Derived.Test.YtgncphoaknffnaaDoorR25
namespace Go.Proofs.YtgncphoaknffnaaDoor
open Go.RowKit
open Go.Deep
open Go.Lib
set_option linter.unusedVariables false
/-- Does s begin with p? -/
def pfx (s p : ByteArray) : Bool := decide (p.size ≤ s.size) && ((s.extract 0 p.size).toList == p.toList)
theorem exJ (s : ByteArray) (i j : Nat) : (s.extract i j).data.toList = (s.data.toList.drop i).take (j - i) := by simp [List.take_drop]
theorem ext_eq {a b : ByteArray} : a = b ↔ a.data.toList = b.data.toList := ⟨fun h => by rw [h], fun h => by
  apply ByteArray.ext
  exact Array.toList_inj.1 h⟩
theorem pfx_iff (s p : ByteArray) : pfx s p = true ↔ p.size ≤ s.size ∧ s.data.toList.take p.size = p.data.toList := by
  unfold pfx
  rw [Bool.and_eq_true, decide_eq_true_iff, beq_iff_eq, Lib.toList_data, Lib.toList_data, exJ]
  simp
/-- What a reader finds behind a record's length and number. -/
def tkN (s : ByteArray) : Nat := leN (rtake s 0 0 4).2.2.data.toList
def tkP (s : ByteArray) : Int × Int × ByteArray := rtake s (rtake s 0 0 4).1 (rtake s 0 0 4).2.1 8
def tkT (s : ByteArray) : ByteArray := (rtake s (tkP s).1 (tkP s).2.1 (tkN s)).2.2
def tkB (ep no : Nat) (s : ByteArray) : Bool := decide ((tkT s).size ≤ 65536) && pfx s (txt (recL ep no (tkT s).data.toList))
def thE (s : ByteArray) : Nat := leN (rtake s (rtake s 0 0 8).1 (rtake s 0 0 8).2.1 8).2.2.data.toList
section
set_option maxRecDepth 10000
set_option maxHeartbeats 1000000
theorem slitePfx_any (s p : ByteArray) (hs : s.size ≤ maxLen) (hp : p.size ≤ maxLen) (w : World) : Calls Tryd.prog 84 #[.string s, .string p] w fun e w' => e = .returned (.bool (pfx s p)) ∧ w' = w := by
  unfold maxLen at hs hp
  unfold pfx
  by_cases h : p.size ≤ s.size
  · have h1 : (p.size : Int) ≤ s.size := by omega
    have h2 : (0 : Int) ≤ p.size := by omega
    rw [decide_eq_true h, Bool.true_and]
    go_enter Tryd.func84, Tryd.ntmps84
    go_wp2
    go_ret
    exact ⟨rfl, rfl⟩
  · have h1 : ¬ (p.size : Int) ≤ s.size := by omega
    rw [decide_eq_false h, Bool.false_and]
    go_enter Tryd.func84, Tryd.ntmps84
    go_wp2
    go_ret
    exact ⟨rfl, rfl⟩
theorem hasPfx_any (s p : ByteArray) (hs : s.size ≤ maxLen) (hp : p.size ≤ maxLen) (w : World) : Calls Tryd.prog 59 #[.string s, .string p] w fun e w' => e = .returned (.bool (pfx s p)) ∧ w' = w := by
  have H := hide (slitePfx_any s p hs hp w)
  go_enter Tryd.func59, Tryd.ntmps59
  go_wp2_with (go_at_call 84; refine H.out.mono ?_; rintro e w1 ⟨rfl, hw⟩; subst w1)
  go_ret
  exact ⟨rfl, rfl⟩
theorem rBytesJ (b : Nat) (s : ByteArray) (w : World) (p err n : Int) (h : Rst w b s p err) (hs : s.size ≤ maxLen) (h0 : 0 ≤ p) (h1 : p ≤ s.size) (hn : 0 ≤ n) (hn2 : n ≤ 9223372036854775807) : Calls Tryd.prog 57 #[.pointer (some ⟨b, 0, none⟩), .int .i64 n] w fun e w' => e = .returned (.string (rtake s p err n).2.2) ∧ Rst w' b s (rtake s p err n).1 (rtake s p err n).2.1 ∧ Rfr b w w' := by
  have HT := hide (rTake b s w p err n h hs h0 h1 hn hn2)
  clear h hs h0 h1
  generalize rtake s p err n = R at *
  go_enter Tryd.func57, Tryd.ntmps57
  go_wp2_with (go_at_call 82; refine HT.out.mono ?_; rintro e w1 ⟨rfl, r1, f1⟩)
  go_ret
  exact ⟨rfl, r1, f1⟩
theorem rst_new (w : World) (s : ByteArray) : Rst (w.alloc (.cells #[.string s, .int .i64 0, .int .i64 0] 114)) w.heap.size s 0 0 := heap_alloc_last w _
theorem takeHead_any (s : ByteArray) (hs : s.size ≤ maxLen) (w : World) (hK : Kg w) : Calls Tryd.prog 37 #[.string s] w fun e w' => e = .returned (.tuple #[.int .u64 (thE s), .bool (pfx s (txt (headL (thE s))))]) ∧ Below w.heap.size w w' := by
  have b0 : Below w.heap.size w (w.alloc (.cells #[.string s, .int .i64 0, .int .i64 0] 114)) := (Below.refl _ _).alloc (Nat.le_refl _) _
  have R0 := hide (rst_new w s)
  have i1 := rtake_inv s 0 0 8 (by omega) (by omega)
  have z2 := rtake_size s (rtake s 0 0 8).1 (rtake s 0 0 8).2.1 8 8 rfl i1.1
  have hU : U64 (thE s) := by
    unfold U64 thE
    exact leN_lt' _ 8 _ (by simpa using z2) (by decide)
  have HB := hide fun W h => rBytesJ w.heap.size s W 0 0 8 h hs (by omega) (by omega) (by omega) (by omega)
  have HU := hide fun W h => rU64 w.heap.size s W (rtake s 0 0 8).1 (rtake s 0 0 8).2.1 h hs i1.1 i1.2
  rw [show leN (rtake s (rtake s 0 0 8).1 (rtake s 0 0 8).2.1 8).2.2.data.toList = thE s from rfl] at HU
  have HH := hide fun W (b : Below w.heap.size w W) => headJ_any (thE s) hU W (hK.next b)
  have HP := hide fun W => hasPfx_any s (txt (headL (thE s))) hs (by rw [txtJ_size, headL_len]; decide) W
  generalize thE s = ep at *
  generalize txt (headL ep) = hd at *
  generalize pfx s hd = pb at *
  generalize rtake s (rtake s 0 0 8).1 (rtake s 0 0 8).2.1 8 = R2 at *
  generalize rtake s 0 0 8 = R1 at *
  clear i1 z2 hU hK hs
  go_enter Tryd.func37, Tryd.ntmps37
  go_wp2_with (first | (go_at_call 56; refine (newReader_any _ _).mono ?_; rintro e w1 ⟨rfl, rfl⟩) | (go_at_call 57; refine (HB.out _ R0.out).mono ?_; rintro e w2 ⟨rfl, r2, f2⟩; have Q2 := hide r2; have F2 := hide (b0.trans (f2.to_below (Nat.le_refl _) b0.size)); clear r2 f2) | (go_at_call 58; refine (HU.out _ Q2.out).mono ?_; rintro e w3 ⟨rfl, r3, f3⟩; have F3 := hide (F2.out.trans (f3.to_below (Nat.le_refl _) F2.out.size)); clear r3 f3) | (go_at_call 8; refine (HH.out _ F3.out).mono ?_; rintro e w4 ⟨rfl, b4⟩; have F4 := hide (below_next F3.out b4); clear b4) | (go_at_call 59; refine (HP.out _).mono ?_; rintro e w5 ⟨rfl, hw⟩; subst w5))
  go_ret2
  exact ⟨rfl, F4.out⟩
theorem takeRec_any (ep no : Nat) (he : U64 ep) (hn : U64 no) (s : ByteArray) (hs : s.size ≤ maxLen) (w : World) (hK : Kg w) : Calls Tryd.prog 38 #[.string s, .int .u64 ep, .int .u64 no] w fun e w' => e = .returned (.tuple #[.string (tkT s), .bool (tkB ep no s)]) ∧ Below w.heap.size w w' := by
  have b0 : Below w.heap.size w (w.alloc (.cells #[.string s, .int .i64 0, .int .i64 0] 114)) := (Below.refl _ _).alloc (Nat.le_refl _) _
  have R0 := hide (rst_new w s)
  have i1 := rtake_inv s 0 0 4 (by omega) (by omega)
  have z1 := rtake_size s 0 0 4 4 rfl (by omega)
  have i2 := rtake_inv s (rtake s 0 0 4).1 (rtake s 0 0 4).2.1 8 i1.1 i1.2
  have hN : tkN s < 4294967296 := by
    unfold tkN
    exact leN_lt' _ 4 _ (by simpa using z1) (by decide)
  have zt : (tkT s).size ≤ maxLen := by
    have := rtake_size s (tkP s).1 (tkP s).2.1 (tkN s) (tkN s) rfl i2.1
    show (rtake s (tkP s).1 (tkP s).2.1 (tkN s)).2.2.size ≤ _
    unfold maxLen
    omega
  have HU4 := hide fun W h => rU32 w.heap.size s W 0 0 h hs (by omega) (by omega)
  rw [show leN (rtake s 0 0 4).2.2.data.toList = tkN s from rfl] at HU4
  have HU8 := hide fun W h => rU64 w.heap.size s W (rtake s 0 0 4).1 (rtake s 0 0 4).2.1 h hs i1.1 i1.2
  rw [show rtake s (rtake s 0 0 4).1 (rtake s 0 0 4).2.1 8 = tkP s from rfl] at HU8
  have HB := hide fun W h => rBytesJ w.heap.size s W (tkP s).1 (tkP s).2.1 (tkN s) h hs i2.1 i2.2 (by omega) (by omega)
  rw [show (rtake s (tkP s).1 (tkP s).2.1 (tkN s)).2.2 = tkT s from rfl] at HB
  have e1 : IntKind.i64.wrap (tkN s : Int) = tkN s := wrapI _ (by omega) (by omega)
  unfold tkB
  by_cases hl : (tkT s).size ≤ 65536
  · have HR := hide fun W (b : Below w.heap.size w W) => recJ_any ep no he hn (tkT s) hl W (hK.next b)
    have HP := hide fun W => hasPfx_any s (txt (recL ep no (tkT s).data.toList)) hs (by have h3 : (tkT s).data.toList.length = (tkT s).size := (by simp); rw [txtJ_size, recL_len, h3]; unfold maxLen; omega) W
    rw [decide_eq_true hl, Bool.true_and]
    generalize txt (recL ep no (tkT s).data.toList) = rt at *
    generalize pfx s rt = pb at *
    generalize tkT s = tx at *
    generalize rtake s (tkP s).1 (tkP s).2.1 (tkN s) = R3 at *
    generalize tkP s = R2 at *
    generalize rtake s 0 0 4 = R1 at *
    generalize tkN s = N at *
    clear i1 z1 i2 zt hK hs hl he hn
    go_enter Tryd.func38, Tryd.ntmps38
    go_wp2_with (first | (go_at_call 56; refine (newReader_any _ _).mono ?_; rintro e w1 ⟨rfl, rfl⟩) | (go_at_call 60; refine (HU4.out _ R0.out).mono ?_; rintro e w2 ⟨rfl, r2, f2⟩; have Q2 := hide r2; have F2 := hide (b0.trans (f2.to_below (Nat.le_refl _) b0.size)); clear r2 f2) | (go_at_call 58; refine (HU8.out _ Q2.out).mono ?_; rintro e w3 ⟨rfl, r3, f3⟩; have Q3 := hide r3; have F3 := hide (F2.out.trans (f3.to_below (Nat.le_refl _) F2.out.size)); clear r3 f3) | (go_at_call 57; refine (HB.out _ Q3.out).mono ?_; rintro e w4 ⟨rfl, r4, f4⟩; have F4 := hide (F3.out.trans (f4.to_below (Nat.le_refl _) F3.out.size)); clear r4 f4) | (go_at_call 6; refine (HR.out _ F4.out).mono ?_; rintro e w5 ⟨rfl, b5⟩; have F5 := hide (below_next F4.out b5); clear b5) | (go_at_call 59; refine (HP.out _).mono ?_; rintro e w6 ⟨rfl, hw⟩; subst w6))
    go_ret2
    exact ⟨rfl, F5.out⟩
  · have HR := hide fun W => recJ_long ep no (tkT s) (by omega) zt W
    rw [decide_eq_false hl, Bool.false_and]
    generalize tkT s = tx at *
    generalize rtake s (tkP s).1 (tkP s).2.1 (tkN s) = R3 at *
    generalize tkP s = R2 at *
    generalize rtake s 0 0 4 = R1 at *
    generalize tkN s = N at *
    clear i1 z1 i2 zt hK hs hl he hn
    go_enter Tryd.func38, Tryd.ntmps38
    go_wp2_with (first | (go_at_call 56; refine (newReader_any _ _).mono ?_; rintro e w1 ⟨rfl, rfl⟩) | (go_at_call 60; refine (HU4.out _ R0.out).mono ?_; rintro e w2 ⟨rfl, r2, f2⟩; have Q2 := hide r2; have F2 := hide (b0.trans (f2.to_below (Nat.le_refl _) b0.size)); clear r2 f2) | (go_at_call 58; refine (HU8.out _ Q2.out).mono ?_; rintro e w3 ⟨rfl, r3, f3⟩; have Q3 := hide r3; have F3 := hide (F2.out.trans (f3.to_below (Nat.le_refl _) F2.out.size)); clear r3 f3) | (go_at_call 57; refine (HB.out _ Q3.out).mono ?_; rintro e w4 ⟨rfl, r4, f4⟩; have F4 := hide (F3.out.trans (f4.to_below (Nat.le_refl _) F3.out.size)); clear r4 f4) | (go_at_call 6; refine (HR.out _).mono ?_; rintro e w5 ⟨rfl, hw⟩; subst w5))
    go_ret2
    exact ⟨rfl, F4.out⟩
end
end Go.Proofs.YtgncphoaknffnaaDoor
namespace Go.Proofs.YtgncphoaknffnaaDoor
open Go.RowKit
open Go.Deep
open Go.Lib
set_option linter.unusedVariables false
/-- The record with which s begins. -/
def rdRec (ep no : Nat) (s : List UInt8) : Option (List UInt8) :=
  if 16 + leN (s.take 4) ≤ s.length ∧ leN (s.take 4) ≤ 65536 ∧ s.take (16 + leN (s.take 4)) = recL ep no ((s.drop 12).take (leN (s.take 4))) then some ((s.drop 12).take (leN (s.take 4))) else none
theorem leN_zeros : leN (lowL 0 4) = 0 := by decide
theorem rec_take4 (ep no : Nat) (y : List UInt8) : (recL ep no y).take 4 = lowL y.length 4 := by
  unfold recL bodyL
  rw [List.append_assoc, List.append_assoc, List.take_append_of_le_length (by rw [lowL_len]; omega), List.take_of_length_le (by rw [lowL_len]; omega)]
theorem tk_spec (ep no : Nat) (s : ByteArray) : tkB ep no s = (rdRec ep no s.data.toList).isSome ∧ ∀ y, rdRec ep no s.data.toList = some y → tkT s = txt y := by
  have hsl : s.data.toList.length = s.size := by simp
  have e0 : (rtake s 0 0 4) = if (s.size : Int) < 4 then (0, 4, ⟨#[]⟩) else (4, 0, s.extract 0 4) := by
    unfold rtake
    simp
  have small : ∀ y : List UInt8, s.size < 16 → pfx s (txt (recL ep no y)) = false := fun y h => by
    cases hp : pfx s (txt (recL ep no y)) with
    | false => rfl
    | true =>
      have h2 := ((pfx_iff _ _).1 hp).1
      rw [txtJ_size, recL_len] at h2
      omega
  have none16 : s.size < 16 → rdRec ep no s.data.toList = none := fun h => by
    unfold rdRec
    rw [if_neg (by rw [hsl]; omega)]
  by_cases h12 : s.size < 12
  · rw [none16 (by omega)]
    refine ⟨?_, fun y h => by cases h⟩
    unfold tkB
    rw [small _ (by omega)]
    simp
  · have h4 : ¬ (s.size : Int) < 4 := by omega
    rw [if_neg h4] at e0
    have hN : tkN s = leN (s.data.toList.take 4) := by
      unfold tkN
      rw [e0]
      show leN (s.extract 0 4).data.toList = _
      rw [exJ]
      simp
    have hP : ((tkP s).1, (tkP s).2.1) = (12, 0) := by
      unfold tkP
      rw [e0]
      show ((rtake s 4 0 8).1, (rtake s 4 0 8).2.1) = _
      unfold rtake
      rw [if_neg (by simp), if_neg (by omega), if_neg (by omega)]
      rfl
    have hP1 : (tkP s).1 = 12 := congrArg Prod.fst hP
    have hP2 : (tkP s).2.1 = 0 := congrArg Prod.snd hP
    by_cases hb : s.size < 12 + leN (s.data.toList.take 4)
    · have hT : tkT s = ⟨#[]⟩ := by
        unfold tkT
        rw [hP1, hP2, hN]
        unfold rtake
        rw [if_neg (by simp), if_neg (by omega), if_pos (by omega)]
      have hr : rdRec ep no s.data.toList = none := by
        unfold rdRec
        rw [if_neg (by rw [hsl]; omega)]
      rw [hr]
      refine ⟨?_, fun y h => by cases h⟩
      unfold tkB
      rw [hT]
      cases hp : pfx s (txt (recL ep no [])) with
      | false => simp
      | true =>
        exfalso
        obtain ⟨h1, h2⟩ := (pfx_iff _ _).1 hp
        rw [txtJ_size, recL_len] at h1 h2
        have h3 := congrArg (List.take 4) h2
        rw [List.take_take, txtJ_list, rec_take4, show min 4 (16 + ([] : List UInt8).length) = 4 from rfl] at h3
        rw [h3, show ([] : List UInt8).length = 0 from rfl, leN_zeros] at hb
        omega
    · have hT : (tkT s).data.toList = (s.data.toList.drop 12).take (leN (s.data.toList.take 4)) := by
        unfold tkT
        rw [hP1, hP2, hN]
        unfold rtake
        rw [if_neg (by simp), if_neg (by omega), if_neg (by omega)]
        show (s.extract (Int.toNat 12) (Int.toNat (12 + _))).data.toList = _
        rw [exJ, show Int.toNat 12 = 12 from rfl, show (12 + (leN (s.data.toList.take 4) : Int)).toNat - 12 = leN (s.data.toList.take 4) by omega]
      have hTz : (tkT s).size = leN (s.data.toList.take 4) := by
        have := congrArg List.length hT
        rw [List.length_take, List.length_drop, hsl] at this
        have e : (tkT s).data.toList.length = (tkT s).size := by simp
        omega
      have hTx : tkT s = txt ((s.data.toList.drop 12).take (leN (s.data.toList.take 4))) := by rw [← hT, txtJ_of]
      unfold tkB rdRec
      rw [hT, hTz]
      have hpl : (recL ep no ((s.data.toList.drop 12).take (leN (s.data.toList.take 4)))).length = 16 + leN (s.data.toList.take 4) := by
        rw [recL_len, ← hT]
        have e : (tkT s).data.toList.length = (tkT s).size := by simp
        omega
      have hpi := pfx_iff s (txt (recL ep no ((s.data.toList.drop 12).take (leN (s.data.toList.take 4)))))
      rw [txtJ_size, hpl, txtJ_list] at hpi
      generalize leN (s.data.toList.take 4) = n at *
      by_cases hc : 16 + n ≤ s.data.toList.length ∧ n ≤ 65536 ∧ s.data.toList.take (16 + n) = recL ep no ((s.data.toList.drop 12).take n)
      · rw [if_pos hc, hpi.2 ⟨by rw [← hsl]; exact hc.1, hc.2.2⟩, decide_eq_true hc.2.1]
        refine ⟨rfl, fun y hy => ?_⟩
        cases hy
        exact hTx
      · rw [if_neg hc]
        refine ⟨?_, fun y h => by cases h⟩
        by_cases hn : n ≤ 65536
        · cases hp : pfx s (txt (recL ep no ((s.data.toList.drop 12).take n))) with
          | false => simp
          | true =>
            exfalso
            obtain ⟨h1, h2⟩ := hpi.1 hp
            exact hc ⟨by rw [hsl]; exact h1, hn, h2⟩
        · rw [decide_eq_false hn]
          rfl
/-- k records are taken: which, and how far that is. -/
def stJ (ep : Nat) (s : List UInt8) : Nat → Option (List (List UInt8) × Nat)
  | 0 => some ([], 20)
  | k + 1 => (stJ ep s k).bind fun p => (rdRec ep p.1.length (s.drop p.2)).map fun y => (p.1 ++ [y], p.2 + (16 + y.length))
theorem rdRec_some {ep no : Nat} {s y : List UInt8} (h : rdRec ep no s = some y) : 16 + y.length ≤ s.length ∧ y.length ≤ 65536 ∧ s.take (16 + y.length) = recL ep no y ∧ y = (s.drop 12).take (leN (s.take 4)) ∧ y.length = leN (s.take 4) := by
  unfold rdRec at h
  split at h
  · rename_i hc
    cases h
    have hl : ((s.drop 12).take (leN (s.take 4))).length = leN (s.take 4) := by
      rw [List.length_take, List.length_drop]
      omega
    rw [hl]
    exact ⟨hc.1, hc.2.1, hc.2.2, rfl, rfl⟩
  · cases h
theorem stJ_facts (ep : Nat) (s : List UInt8) (hs : 20 ≤ s.length) : ∀ (k : Nat) (L : List (List UInt8)) (a : Nat), stJ ep s k = some (L, a) → L.length = k ∧ 20 + 16 * k ≤ a ∧ a ≤ s.length
  | 0, L, a, h => by
    cases h
    exact ⟨rfl, by omega, hs⟩
  | k + 1, L, a, h => by
    unfold stJ at h
    cases hp : stJ ep s k with
    | none => rw [hp] at h; cases h
    | some p =>
      obtain ⟨L0, a0⟩ := p
      rw [hp] at h
      obtain ⟨h1, h2, h3⟩ := stJ_facts ep s hs k L0 a0 hp
      cases hr : rdRec ep L0.length (s.drop a0) with
      | none => simp [hr] at h
      | some y =>
        simp [hr] at h
        obtain ⟨rfl, rfl⟩ := h
        have := (rdRec_some hr).1
        rw [List.length_drop] at this
        exact ⟨by simp [h1], by omega, by omega⟩
theorem stJ_next {ep : Nat} {s : List UInt8} {k : Nat} {L : List (List UInt8)} {a : Nat} {y : List UInt8} (h : stJ ep s k = some (L, a)) (hr : rdRec ep L.length (s.drop a) = some y) : stJ ep s (k + 1) = some (L ++ [y], a + (16 + y.length)) := by
  show (stJ ep s k).bind _ = _
  rw [h]
  simp [hr]
theorem stJ_end {ep : Nat} {s : List UInt8} {k : Nat} {L : List (List UInt8)} {a : Nat} (h : stJ ep s k = some (L, a)) (hr : rdRec ep L.length (s.drop a) = none) : stJ ep s (k + 1) = none := by
  show (stJ ep s k).bind _ = _
  rw [h]
  simp [hr]
theorem stJ_none {ep : Nat} {s : List UInt8} {k : Nat} (h : stJ ep s k = none) : ∀ j, stJ ep s (k + j) = none
  | 0 => h
  | j + 1 => by
    show (stJ ep s (k + j)).bind _ = _
    rw [stJ_none h j]
    rfl
theorem stJ_one {ep : Nat} {s : List UInt8} {k k' : Nat} {p p' : List (List UInt8) × Nat} (h : stJ ep s k = some p) (he : stJ ep s (k + 1) = none) (h' : stJ ep s k' = some p') (he' : stJ ep s (k' + 1) = none) : p = p' := by
  have : k = k' := by
    rcases Nat.lt_trichotomy k k' with hlt | e | hlt
    · have := stJ_none he (k' - (k + 1))
      rw [show k + 1 + (k' - (k + 1)) = k' by omega, h'] at this
      cases this
    · exact e
    · have := stJ_none he' (k - (k' + 1))
      rw [show k' + 1 + (k - (k' + 1)) = k by omega, h] at this
      cases this
  subst this
  rw [h] at h'
  exact Option.some.inj h'
end Go.Proofs.YtgncphoaknffnaaDoor
