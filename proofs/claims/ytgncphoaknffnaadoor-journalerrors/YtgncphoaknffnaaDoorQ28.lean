/- The walk of JournalErrors: names that may not be. -/
import Derived.Test.YtgncphoaknffnaaDoorQ27
namespace Go.Proofs.YtgncphoaknffnaaDoor
open Go.RowKit
open Go.Deep
open Go.Lib
set_option linter.unusedVariables false
section
set_option maxRecDepth 10000
set_option maxHeartbeats 4000000
theorem journalErrors_empty (nm : ByteArray) (hm : nm.size ≤ 140737488351232) (hn : okJ nm = false) (h0 : nm.size = 0) (s : ByteArray) (w : World) (hK : Kg w) : Calls Tryd.prog 5 #[.string nm, .string s] w fun e w' => e = .returned (.bool true) ∧ Below w.heap.size w w' := by
  have HN := hide (newD_any w)
  have HO0 := hide fun W => open_nil nm W
  have HA := hide fun W (b : Below w.heap.size w W) => awakeJ_any W (hK.next b)
  have HO := hide fun W => open_name (gd := w.heap.size) nm W (by unfold maxLen; omega) hn
  have g1 := isempty h0
  clear hn
  go_enter Tryd.func5, Tryd.ntmps5
  go_upto_region 8 with (first | (go_at_call 14; refine HN.out.mono ?_; rintro e w1 ⟨rfl, d1, b1⟩; have D1 := hide (db_new d1 b1); clear d1 b1) | (go_at_call_of 15 (Value.pointer none); refine (HO0.out _).mono ?_; rintro e w2 ⟨rfl, hw⟩; subst w2) | (go_at_call 15; refine (HO.out _).mono ?_; rintro e w2 ⟨rfl, b2⟩; have B2 := hide (below_next D1.out.bel b2); clear b2) | (go_at_call 7; refine (HA.out _ B2.out).mono ?_; rintro e w3 ⟨rfl, b3⟩; have B3 := hide (below_next B2.out b3); clear b3))
  clear HO HA HO0 HN B2 D1
  go_loop [10, 49] (fun l i => ∃ k : Nat, k ≤ nm.size ∧ i = .int .i64 (k : Int) ∧ l = .bool true) (fun l i => (nm.size - intOf i).toNat)
  case atStart => exact ⟨0, Nat.zero_le _, rfl, rfl⟩
  case round =>
    obtain ⟨k, hk, rfl, rfl⟩ := hrel
    by_cases hlt : k < nm.size
    · exfalso
      omega
    · have h2 : ¬ (k : Int) < nm.size := by omega

      go_wp2_with (first | (go_at_call_of 21 (Value.pointer none); refine (getJ_nil _).mono ?_; rintro e wn ⟨rfl, hw⟩; subst wn) | (go_at_call_of 17 (Value.pointer none); refine (add_nil _ _).mono ?_; rintro e wn ⟨rfl, hw⟩; subst wn) | (go_at_call_of 18 (Value.pointer none); refine (flush_nil _).mono ?_; rintro e wn ⟨rfl, hw⟩; subst wn) | (go_at_call_of 22 (Value.pointer none); refine (cut_nil _).mono ?_; rintro e wn ⟨rfl, hw⟩; subst wn) | (go_at_call_of 19 (Value.pointer none); refine (renew_nil _).mono ?_; rintro e wn ⟨rfl, hw⟩; subst wn) | (go_at_call_of 20 (Value.pointer none); refine (deadJ_nil _).mono ?_; rintro e wn ⟨rfl, hw⟩; subst wn) | (go_at_call 23; refine (allJ_nil _).mono ?_; rintro e wn ⟨rfl, hw⟩; subst wn) | (go_at_call 24; refine (lenJ_nil _).mono ?_; rintro e wn ⟨rfl, hw⟩; subst wn) | (go_at_call 25; refine (epochJ_nil _).mono ?_; rintro e wn ⟨rfl, hw⟩; subst wn) | (go_at_call 26; refine (tornJ_nil _).mono ?_; rintro e wn ⟨rfl, hw⟩; subst wn) | (go_at_call 27; refine (sizeJ_nil _).mono ?_; rintro e wn ⟨rfl, hw⟩; subst wn))
      go_ret
      exact ⟨rfl, B3.out⟩
theorem journalErrors_long (nm : ByteArray) (hm : nm.size ≤ 140737488351232) (hn : okJ nm = false) (h0 : 28 < nm.size) (s : ByteArray) (w : World) (hK : Kg w) : Calls Tryd.prog 5 #[.string nm, .string s] w fun e w' => e = .returned (.bool true) ∧ Below w.heap.size w w' := by
  have HN := hide (newD_any w)
  have HO0 := hide fun W => open_nil nm W
  have HA := hide fun W (b : Below w.heap.size w W) => awakeJ_any W (hK.next b)
  have HO := hide fun W => open_name (gd := w.heap.size) nm W (by unfold maxLen; omega) hn
  have g1 := nonempty (nm := nm) (by omega)
  have g2 : (28 : Int) < nm.size := by omega
  have G3 : Hid (nm.toList.isEmpty = false) := (by show _ = _; cases hq : nm.toList.isEmpty with | false => rfl | true => exact absurd (List.isEmpty_iff.1 hq) (nonempty (nm := nm) (by omega)))
  clear hn
  go_enter Tryd.func5, Tryd.ntmps5
  go_upto_region 8 with (first | (go_at_call 14; refine HN.out.mono ?_; rintro e w1 ⟨rfl, d1, b1⟩; have D1 := hide (db_new d1 b1); clear d1 b1) | (go_at_call_of 15 (Value.pointer none); refine (HO0.out _).mono ?_; rintro e w2 ⟨rfl, hw⟩; subst w2) | (go_at_call 15; refine (HO.out _).mono ?_; rintro e w2 ⟨rfl, b2⟩; have B2 := hide (below_next D1.out.bel b2); clear b2) | (go_at_call 7; refine (HA.out _ B2.out).mono ?_; rintro e w3 ⟨rfl, b3⟩; have B3 := hide (below_next B2.out b3); clear b3))
  clear HO HA HO0 HN B2 D1
  go_loop [10, 49] (fun l i => ∃ k : Nat, k ≤ nm.size ∧ i = .int .i64 (k : Int) ∧ l = .bool true) (fun l i => (nm.size - intOf i).toNat)
  case atStart => exact ⟨0, Nat.zero_le _, rfl, (by first | rfl | (rw [G3.out]; simp; omega))⟩
  case round =>
    obtain ⟨k, hk, rfl, rfl⟩ := hrel
    by_cases hlt : k < nm.size
    · have h1 : (0 : Int) ≤ (k : Int) := by omega
      have h2 : (k : Int) < nm.size := by omega
      have e1 : IntKind.i64.wrap ((k : Int) + 1) = k + 1 := wrapI _ (by omega) (by omega)
      go_wp2
      go_roundw
      case rel => exact ⟨k + 1, by omega, by go_num, rfl⟩
      case measure => simp [intOf]; omega
    · have h2 : ¬ (k : Int) < nm.size := by omega

      go_wp2_with (first | (go_at_call_of 21 (Value.pointer none); refine (getJ_nil _).mono ?_; rintro e wn ⟨rfl, hw⟩; subst wn) | (go_at_call_of 17 (Value.pointer none); refine (add_nil _ _).mono ?_; rintro e wn ⟨rfl, hw⟩; subst wn) | (go_at_call_of 18 (Value.pointer none); refine (flush_nil _).mono ?_; rintro e wn ⟨rfl, hw⟩; subst wn) | (go_at_call_of 22 (Value.pointer none); refine (cut_nil _).mono ?_; rintro e wn ⟨rfl, hw⟩; subst wn) | (go_at_call_of 19 (Value.pointer none); refine (renew_nil _).mono ?_; rintro e wn ⟨rfl, hw⟩; subst wn) | (go_at_call_of 20 (Value.pointer none); refine (deadJ_nil _).mono ?_; rintro e wn ⟨rfl, hw⟩; subst wn) | (go_at_call 23; refine (allJ_nil _).mono ?_; rintro e wn ⟨rfl, hw⟩; subst wn) | (go_at_call 24; refine (lenJ_nil _).mono ?_; rintro e wn ⟨rfl, hw⟩; subst wn) | (go_at_call 25; refine (epochJ_nil _).mono ?_; rintro e wn ⟨rfl, hw⟩; subst wn) | (go_at_call 26; refine (tornJ_nil _).mono ?_; rintro e wn ⟨rfl, hw⟩; subst wn) | (go_at_call 27; refine (sizeJ_nil _).mono ?_; rintro e wn ⟨rfl, hw⟩; subst wn))
      go_ret
      exact ⟨rfl, B3.out⟩
theorem journalErrors_odd (nm : ByteArray) (hm : nm.size ≤ 140737488351232) (hn : okJ nm = false) (h0 : 1 ≤ nm.size) (h28 : nm.size ≤ 28) (s : ByteArray) (w : World) (hK : Kg w) : Calls Tryd.prog 5 #[.string nm, .string s] w fun e w' => e = .returned (.bool true) ∧ Below w.heap.size w w' := by
  have HN := hide (newD_any w)
  have HO0 := hide fun W => open_nil nm W
  have HA := hide fun W (b : Below w.heap.size w W) => awakeJ_any W (hK.next b)
  have HO := hide fun W => open_name (gd := w.heap.size) nm W (by unfold maxLen; omega) hn
  have NO := hide (okJ_not hn h0 h28)
  have g1 := nonempty h0
  have g2 : ¬ (28 : Int) < nm.size := by omega
  have G3 : Hid ((nm.toList.isEmpty || decide ((28 : Int) < nm.size)) = false) := (by show _ = _; rw [decide_eq_false (by omega), Bool.or_false]; cases hq : nm.toList.isEmpty with | false => rfl | true => exact absurd (List.isEmpty_iff.1 hq) (nonempty h0))
  clear hn
  go_enter Tryd.func5, Tryd.ntmps5
  go_upto_region 8 with (first | (go_at_call 14; refine HN.out.mono ?_; rintro e w1 ⟨rfl, d1, b1⟩; have D1 := hide (db_new d1 b1); clear d1 b1) | (go_at_call_of 15 (Value.pointer none); refine (HO0.out _).mono ?_; rintro e w2 ⟨rfl, hw⟩; subst w2) | (go_at_call 15; refine (HO.out _).mono ?_; rintro e w2 ⟨rfl, b2⟩; have B2 := hide (below_next D1.out.bel b2); clear b2) | (go_at_call 7; refine (HA.out _ B2.out).mono ?_; rintro e w3 ⟨rfl, b3⟩; have B3 := hide (below_next B2.out b3); clear b3))
  clear HO HA HO0 HN B2 D1
  go_loop [10, 49] (fun l i => ∃ k : Nat, k ≤ nm.size ∧ i = .int .i64 (k : Int) ∧ l = .bool (!((ls nm).take k).all ofName)) (fun l i => (nm.size - intOf i).toNat)
  case atStart => exact ⟨0, Nat.zero_le _, rfl, (by rw [G3.out]; rfl)⟩
  case round =>
    obtain ⟨k, hk, rfl, rfl⟩ := hrel
    by_cases hlt : k < nm.size
    · have h1 : (0 : Int) ≤ (k : Int) := by omega
      have h2 : (k : Int) < nm.size := by omega
      have e1 : IntKind.i64.wrap ((k : Int) + 1) = k + 1 := wrapI _ (by omega) (by omega)
      have SN := hide (snoc_all nm k hlt)
      cases hb0 : ((ls nm).take k).all ofName with
      | false =>
        have KK : Hid (!((ls nm).take (k + 1)).all ofName) := by
          show (!((ls nm).take (k + 1)).all ofName) = true
          rw [SN.out, hb0]
          rfl
        clear SN hb0
        rw [Bool.not_false]
        go_wp2
        go_roundw
        case rel => exact ⟨k + 1, by omega, by go_num, by rw [show (!((ls nm).take (k + 1)).all ofName) = true from KK.out]⟩
        case measure => simp [intOf]; omega
      | true =>
        rw [Bool.not_true]
        have hb : (nm[k]'hlt).toNat < 256 := UInt8.toNat_lt _
        have hof := ofName_iff (nm[k]'hlt)
        have SS : Hid (((ls nm).take (k + 1)).all ofName = ofName (nm[k]'hlt)) := by
          show _ = _
          rw [SN.out, hb0, Bool.true_and]
        clear SN hb0
        generalize hof2 : ofName (nm[k]'hlt) = ob at *
        generalize hx : (nm[k]'hlt).toNat = x at *
        cases ob
        · have hno : ¬ (((97 : Int) ≤ x ∧ (x : Int) ≤ 122) ∨ ((48 : Int) ≤ x ∧ (x : Int) ≤ 57) ∨ (x : Int) = 46 ∨ (x : Int) = 45) := fun h => by have := hof.2 h; cases this
          clear hof hof2
          by_cases q1 : (97 : Int) ≤ x <;> by_cases q2 : (x : Int) ≤ 122 <;> by_cases q3 : (48 : Int) ≤ x <;> by_cases q4 : (x : Int) ≤ 57 <;> by_cases q5 : (x : Int) = 46 <;> by_cases q6 : (x : Int) = 45
          all_goals first | (exfalso; omega) | skip
          all_goals (clear hno hb; go_wp2; go_roundw)
          all_goals first | exact ⟨k + 1, by omega, by go_num, by rw [SS.out] <;> first | rfl | simp [q5, q6]⟩ | (simp [intOf]; omega)
        · have hyes := hof.1 rfl
          clear hof hof2
          by_cases q1 : (97 : Int) ≤ x <;> by_cases q2 : (x : Int) ≤ 122 <;> by_cases q3 : (48 : Int) ≤ x <;> by_cases q4 : (x : Int) ≤ 57 <;> by_cases q5 : (x : Int) = 46 <;> by_cases q6 : (x : Int) = 45
          all_goals first | (exfalso; omega) | skip
          all_goals (clear hyes hb; go_wp2; go_roundw)
          all_goals first | exact ⟨k + 1, by omega, by go_num, by rw [SS.out] <;> first | rfl | simp [q5, q6]⟩ | (simp [intOf]; omega)
    · have h2 : ¬ (k : Int) < nm.size := by omega
      have hke : k = nm.size := by omega
      have hal : ((ls nm).take k).all ofName = false := by
        rw [hke, List.take_of_length_le (by simp), NO.out]
      rw [hal, Bool.not_false]
      clear hke hal NO
      go_wp2_with (first | (go_at_call_of 21 (Value.pointer none); refine (getJ_nil _).mono ?_; rintro e wn ⟨rfl, hw⟩; subst wn) | (go_at_call_of 17 (Value.pointer none); refine (add_nil _ _).mono ?_; rintro e wn ⟨rfl, hw⟩; subst wn) | (go_at_call_of 18 (Value.pointer none); refine (flush_nil _).mono ?_; rintro e wn ⟨rfl, hw⟩; subst wn) | (go_at_call_of 22 (Value.pointer none); refine (cut_nil _).mono ?_; rintro e wn ⟨rfl, hw⟩; subst wn) | (go_at_call_of 19 (Value.pointer none); refine (renew_nil _).mono ?_; rintro e wn ⟨rfl, hw⟩; subst wn) | (go_at_call_of 20 (Value.pointer none); refine (deadJ_nil _).mono ?_; rintro e wn ⟨rfl, hw⟩; subst wn) | (go_at_call 23; refine (allJ_nil _).mono ?_; rintro e wn ⟨rfl, hw⟩; subst wn) | (go_at_call 24; refine (lenJ_nil _).mono ?_; rintro e wn ⟨rfl, hw⟩; subst wn) | (go_at_call 25; refine (epochJ_nil _).mono ?_; rintro e wn ⟨rfl, hw⟩; subst wn) | (go_at_call 26; refine (tornJ_nil _).mono ?_; rintro e wn ⟨rfl, hw⟩; subst wn) | (go_at_call 27; refine (sizeJ_nil _).mono ?_; rintro e wn ⟨rfl, hw⟩; subst wn))
      go_ret
      exact ⟨rfl, B3.out⟩
theorem journalErrors_walk (nm : ByteArray) (hm : nm.size ≤ 140737488351232) (s : ByteArray) (hs : s.size ≤ 140737488351232) (w : World) (hK : Kg w) : Calls Tryd.prog 5 #[.string nm, .string s] w fun e w' => e = .returned (.bool true) ∧ Below w.heap.size w w' := by
  cases hn : okJ nm with
  | true => exact journalErrors_ok nm hn s hs w hK
  | false =>
    by_cases h0 : nm.size = 0
    · exact journalErrors_empty nm hm hn h0 s w hK
    · by_cases h1 : 28 < nm.size
      · exact journalErrors_long nm hm hn h1 s w hK
      · exact journalErrors_odd nm hm hn (by omega) (by omega) s w hK
end
end Go.Proofs.YtgncphoaknffnaaDoor
