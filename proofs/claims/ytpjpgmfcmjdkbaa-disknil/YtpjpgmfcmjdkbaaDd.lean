/- A region that draws its order, walked by hand; names; small calls of a disk. -/
import Derived.Test.YtpjpgmfcmjdkbaaDc
namespace Go.Proofs.Ytpjpgmfcmjdkbaa
open Go.RowKit
open Go.Deep
open Go.Lib
section
variable {ops : Array Oper} {S : World → Prop} {o : Oper} {a : Act}
theorem yl_load (hw : Region.wanted o (yielded ops a.tmps) = true) {t : TypeId} (x : Operand) (ho : o.op = .load t x) (v : Value) (c : Value) (hx : a.eval x = v) (hr : ∀ W, S W → (Instr.loadAt t v).run Try.prog W = .ok c W) : YieldsIf Try.prog ops S o c a :=
  .inl ⟨hw, fun W hW => by
    unfold execOp
    simp only [ho, hx, hr W hW, Sem.run_bind, Result.andThen_ok, Sem.run_pure]⟩
theorem yl_move (hw : Region.wanted o (yielded ops a.tmps) = true) (x : Operand) (ho : o.op = .move x) (v : Value) (hx : a.eval x = v) : YieldsIf Try.prog ops S o v a :=
  .inl ⟨hw, fun W _ => by
    unfold execOp
    simp only [ho, hx, Sem.run_pure]⟩
theorem yl_slice (hw : Region.wanted o (yielded ops a.tmps) = true) {t : TypeId} (x : Operand) (lo hi : Option Operand) (ho : o.op = .slice t x lo hi none) (v r : Value) (hx : a.eval x = v) (vl vh : Option Value) (hl : lo.map a.eval = vl) (hh : hi.map a.eval = vh) (hr : ∀ W, (Instr.sliceAt t v vl vh none).run Try.prog W = .ok r W) : YieldsIf Try.prog ops S o r a :=
  .inl ⟨hw, fun W hW => by
    unfold execOp
    simp only [ho, hx, hl, hh, Option.map_none, hr W, Sem.run_bind, Result.andThen_ok, Sem.run_pure]⟩
end
/-! ### Names -/
/-- May a byte stand in a name? -/
def ofName (b : UInt8) : Bool := (decide (97 ≤ b.toNat) && decide (b.toNat ≤ 122)) || (decide (48 ≤ b.toNat) && decide (b.toNat ≤ 57)) || b.toNat == 46 || b.toNat == 45
def isName (l : List UInt8) : Bool := l.all ofName && decide (1 ≤ l.length) && decide (l.length ≤ 32)
set_option maxHeartbeats 1000000 in
theorem ofName_any (b : UInt8) (w : World) : Calls Try.prog 66 #[.int .u8 (b.toNat : Int)] w fun e w' => e = .returned (.bool (ofName b)) ∧ w' = w := by
  unfold ofName
  generalize b.toNat = x
  by_cases h1 : (97 : Int) ≤ x <;> by_cases h2 : (x : Int) ≤ 122 <;> by_cases h3 : (48 : Int) ≤ x <;> by_cases h4 : (x : Int) ≤ 57 <;> by_cases h5 : (x : Int) = 46 <;> by_cases h6 : (x : Int) = 45
  all_goals first | omega | skip
  all_goals
    have g1 : (97 ≤ x) = ((97 : Int) ≤ x) := by apply propext; omega
    have g2 : (x ≤ 122) = ((x : Int) ≤ 122) := by apply propext; omega
    have g3 : (48 ≤ x) = ((48 : Int) ≤ x) := by apply propext; omega
    have g4 : (x ≤ 57) = ((x : Int) ≤ 57) := by apply propext; omega
    have g5 : (x == 46) = decide ((x : Int) = 46) := by rw [Bool.eq_iff_iff]; simp; omega
    have g6 : (x == 45) = decide ((x : Int) = 45) := by rw [Bool.eq_iff_iff]; simp; omega
    simp only [g1, g2, g3, g4, g5, g6, h1, h2, h3, h4, h5, h6]
    clear g1 g2 g3 g4 g5 g6
    go_enter Try.func66, Try.ntmps66
    go_wp2
    go_ret
    exact ⟨by first | rfl | simp [h5, h6], rfl⟩
theorem all_snoc (s : ByteArray) (k : Nat) (h : k < s.size) : (s.data.toList.take (k + 1)).all ofName = ((s.data.toList.take k).all ofName && ofName s[k]) := by
  rw [List.take_succ_eq_append_getElem (by simpa using h)]
  simp
  rfl
set_option maxHeartbeats 1000000 in
theorem isName_any (s : ByteArray) (w : World) (hs : s.size ≤ maxLen) : Calls Try.prog 59 #[.string s] w fun e w' => e = .returned (.bool (isName s.data.toList)) ∧ w' = w := by
  unfold maxLen at hs
  go_enter Try.func59, Try.ntmps59
  go_wp2
  go_loop [6] (fun i => ∃ k : Nat, k ≤ s.size ∧ i = .int .i64 k ∧ Hid ((s.data.toList.take k).all ofName = true)) (fun i => s.size - (intOf i).toNat)
  case atStart => exact ⟨0, Nat.zero_le _, rfl, rfl⟩
  case round =>
    obtain ⟨k, hk, rfl, ha⟩ := hrel
    by_cases hlt : k < s.size
    · have hsn := hide (all_snoc s k hlt)
      have HB := hide fun W => ofName_any s[k] W
      cases hb : ofName s[k]
      · have hno : Hid (isName s.data.toList = false) := by
          have h1 := hsn.out
          rw [hb, Bool.and_false] at h1
          show _ = _
          unfold isName
          have h2 : s.data.toList.all ofName = false := by
            rw [← List.take_append_drop (k + 1) s.data.toList, List.all_append, h1, Bool.false_and]
          rw [h2, Bool.false_and, Bool.false_and]
        rw [hb] at HB
        clear hsn hb
        go_wp2_with (go_at_call 66; refine (HB.out _).mono ?_; rintro e w' ⟨rfl, rfl⟩)
        go_ret
        exact ⟨by rw [hno.out]; rfl, rfl⟩
      · have hyes : Hid ((s.data.toList.take (k + 1)).all ofName = true) := by
          show _ = _
          rw [hsn.out, ha.out, hb]
          rfl
        rw [hb] at HB
        clear hsn hb
        go_wp2_with (go_at_call 66; refine (HB.out _).mono ?_; rintro e w' ⟨rfl, rfl⟩)
        go_round
        case rel => exact ⟨k + 1, by omega, by go_num, hyes⟩
        case measure => simp [intOf]; omega
    · have hke : k = s.size := by omega
      subst hke
      have hall : Hid (isName s.data.toList = (decide (1 ≤ s.size) && decide (s.size ≤ 32))) := by
        show _ = _
        unfold isName
        have h1 := ha.out
        rw [List.take_of_length_le (by simp)] at h1
        rw [h1, Bool.true_and]
        simp
      by_cases h1 : (1 : Int) ≤ s.size <;> by_cases h2 : (s.size : Int) ≤ 32
      all_goals
        go_wp2
        go_ret
        refine ⟨?_, rfl⟩
        rw [hall.out]
        have e1 : (1 ≤ s.size) = ((1 : Int) ≤ s.size) := by apply propext; omega
        have e2 : (s.size ≤ 32) = ((s.size : Int) ≤ 32) := by apply propext; omega
        simp [e1, e2, h1, h2]
end Go.Proofs.Ytpjpgmfcmjdkbaa
