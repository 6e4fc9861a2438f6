/- The walk of JournalErrors. -/
import Derived.Test.YtgncphoaknffnaaDoorQ26
namespace Go.Proofs.YtgncphoaknffnaaDoor
open Go.RowKit
open Go.Deep
open Go.Lib
set_option linter.unusedVariables false
/-- Is a byte no byte of a name, as the law asks? -/
theorem ofName_iff (c : UInt8) : ofName c = true ↔ ((97 : Int) ≤ c.toNat ∧ (c.toNat : Int) ≤ 122) ∨ ((48 : Int) ≤ c.toNat ∧ (c.toNat : Int) ≤ 57) ∨ (c.toNat : Int) = 46 ∨ (c.toNat : Int) = 45 := by
  unfold ofName
  simp
  omega
theorem all_at {nm : ByteArray} (h : (ls nm).all ofName = true) (k : Nat) (hk : k < nm.size) : ofName (nm[k]'hk) = true := by
  rw [List.all_eq_true] at h
  exact h _ (by show nm[k] ∈ nm.data.toList; exact Array.getElem_mem_toList (by simpa using hk))
theorem okJ_parts {nm : ByteArray} (h : okJ nm = true) : (ls nm).all ofName = true ∧ 1 ≤ nm.size ∧ nm.size ≤ 28 := by
  have h1 := okJ_name h
  have h2 := okJ_size h
  unfold isName at h1
  simp only [Bool.and_eq_true, decide_eq_true_eq] at h1
  have e : (ls nm).length = nm.size := by simp
  exact ⟨h1.1.1, by omega, h2⟩
theorem okJ_not {nm : ByteArray} (h : okJ nm = false) (h1 : 1 ≤ nm.size) (h2 : nm.size ≤ 28) : (ls nm).all ofName = false := by
  cases hc : (ls nm).all ofName with
  | false => rfl
  | true =>
    exfalso
    have e : (ls nm).length = nm.size := by simp
    have : okJ nm = true := by
      unfold okJ isName
      rw [hc, e]
      simp
      omega
    rw [h] at this
    cases this
theorem nonempty {nm : ByteArray} (h : 1 ≤ nm.size) : ¬ nm.toList = [] := by
  rw [Lib.toList_data]
  intro e
  have h1 : nm.data.toList.length = 0 := by rw [e]; rfl
  have h2 : nm.data.toList.length = nm.size := by simp
  omega
theorem isempty {nm : ByteArray} (h : nm.size = 0) : nm.toList = [] := by
  rw [Lib.toList_data]
  apply List.eq_nil_of_length_eq_zero
  simpa using h
theorem snoc_all (nm : ByteArray) (k : Nat) (hk : k < nm.size) : ((ls nm).take (k + 1)).all ofName = (((ls nm).take k).all ofName && ofName (nm[k]'hk)) := by
  rw [List.take_succ_eq_append_getElem (by simpa using hk)]
  simp
  rfl
section
set_option maxRecDepth 10000
set_option maxHeartbeats 4000000
theorem journalErrors_ok (nm : ByteArray) (hn : okJ nm = true) (s : ByteArray) (hs : s.size ≤ 140737488351232) (w : World) (hK : Kg w) : Calls Tryd.prog 5 #[.string nm, .string s] w fun e w' => e = .returned (.bool true) ∧ Below w.heap.size w w' := by
  have HN := hide (newD_any w)
  have HO0 := hide fun W => open_nil nm W
  have HA := hide fun W (b : Below w.heap.size w W) => awakeJ_any W (hK.next b)
  have HO := hide fun W T (h : DB w W w.heap.size x0 T) => open_x0 h nm hK hn
  obtain ⟨pa, p1, p2⟩ := okJ_parts hn
  have g3 : (nm.toList.isEmpty || decide ((28 : Int) < nm.size)) = false := by
    rw [decide_eq_false (by omega), Bool.or_false]
    cases hq : nm.toList.isEmpty with
    | false => rfl
    | true => exact absurd (List.isEmpty_iff.1 hq) (nonempty p1)
  have g1 := nonempty p1
  have g2 : ¬ (28 : Int) < nm.size := by omega
  have PA := hide pa
  have G3 := hide g3
  clear g3
  have HV := vd_xo hn
  have HC := hide fun gj W T (h : JB w W gj w.heap.size ⟨nm, 0, [], 0, false⟩ (xo nm) T (.slice none 0 0)) => crash_any w.heap.size (xo nm) T 0 0 W h.dk HV (by decide) (by decide)
  have hbd : Bd (crC (xo nm) 0 0).now := (flC_vd HV 0 0).bd
  have hdd : (crC (xo nm) 0 0).dead = true := rfl
  have HD := hide fun W T (h : DB w W w.heap.size (crC (xo nm) 0 0) T) => open_dead h nm hn hdd
  have HF1 := hide fun gj W T (h : JB w W gj w.heap.size ⟨nm, 0, [], 0, true⟩ (crC (xo nm) 0 0) T (.slice none 0 0)) => flush_dead h rfl
  have HF2 := hide fun gj W T (h : JB w W gj w.heap.size ⟨nm, 0, [], 0, false⟩ (crC (xo nm) 0 0) T (.slice none 0 0)) => flush_off h rfl hdd
  have HRn := hide fun gj W T (h : JB w W gj w.heap.size ⟨nm, 0, [], 0, true⟩ (crC (xo nm) 0 0) T (.slice none 0 0)) => renew_dead h rfl (.slice none 0 0)
  have HDd := hide fun gj W T (h : JB w W gj w.heap.size ⟨nm, 0, [], 0, true⟩ (crC (xo nm) 0 0) T (.slice none 0 0)) => deadJ_any h
  have HA1 : Hid (s.size ≤ 65536 → ∀ gj W T, JB w W gj w.heap.size ⟨nm, 0, [], 0, false⟩ (crC (xo nm) 0 0) T (.slice none 0 0) → Calls Tryd.prog 17 #[.pointer (some ⟨gj, 0, none⟩), .string s] W fun e w' => e = .returned (.int .i64 7) ∧ JB w w' gj w.heap.size ⟨nm, 0, [], 0, true⟩ (crC (xo nm) 0 0) T (.slice none 0 0)) := fun hl gj W T h => add_off h hK s rfl hdd hbd (by show nm.size ≤ _; unfold maxLen; omega) hl (show (0 : Nat) < 18446744073709551616 by decide) (Nat.zero_le _)
  have HA2 : Hid (65536 < s.size → ∀ gj W T, JB w W gj w.heap.size ⟨nm, 0, [], 0, false⟩ (crC (xo nm) 0 0) T (.slice none 0 0) → Calls Tryd.prog 17 #[.pointer (some ⟨gj, 0, none⟩), .string s] W fun e w' => e = .returned (.int .i64 121) ∧ JB w w' gj w.heap.size ⟨nm, 0, [], 0, false⟩ (crC (xo nm) 0 0) T (.slice none 0 0)) := fun hl gj W T h => add_long h s rfl hl (by unfold maxLen; omega) (Nat.zero_le _)
  have HS := hide hs
  clear hn pa hs hbd hdd HV
  go_enter Tryd.func5, Tryd.ntmps5
  go_upto_region 8 with (first | (go_at_call 14; refine HN.out.mono ?_; rintro e w1 ⟨rfl, d1, b1⟩; have D1 := hide (db_new d1 b1); clear d1 b1) | (go_at_call_of 15 (Value.pointer none); refine (HO0.out _).mono ?_; rintro e w2 ⟨rfl, hw⟩; subst w2) | (go_at_call 15; refine (HO.out _ _ D1.out).mono ?_; rintro e w2 ⟨gj, T2, rfl, j2⟩; have J2 := hide j2; clear j2) | (go_at_call 7; refine (HA.out _ J2.out.bel).mono ?_; rintro e w3 ⟨rfl, b3⟩; have J3 := hide (J2.out.next b3); clear b3))
  clear HO HA HO0 HN J2 D1
  go_loop [10, 49] (fun l i => ∃ k : Nat, k ≤ nm.size ∧ i = .int .i64 (k : Int) ∧ l = .bool false) (fun l i => (nm.size - intOf i).toNat)
  case atStart => exact ⟨0, Nat.zero_le _, rfl, by rw [G3.out]⟩
  case round =>
    obtain ⟨k, hk, rfl, rfl⟩ := hrel
    by_cases hlt : k < nm.size
    · have h1 : (0 : Int) ≤ (k : Int) := by omega
      have h2 : (k : Int) < nm.size := by omega
      have hof := (ofName_iff _).1 (all_at PA.out k hlt)
      have e1 : IntKind.i64.wrap ((k : Int) + 1) = k + 1 := wrapI _ (by omega) (by omega)
      have hb : (nm[k]'hlt).toNat < 256 := UInt8.toNat_lt _
      have HL : Hid (∀ x : Nat, (nm[k]'hlt).toNat = x → True) := fun _ _ => trivial
      generalize hx : (nm[k]'hlt).toNat = x at *
      by_cases q1 : (97 : Int) ≤ x <;> by_cases q2 : (x : Int) ≤ 122 <;> by_cases q3 : (48 : Int) ≤ x <;> by_cases q4 : (x : Int) ≤ 57 <;> by_cases q5 : (x : Int) = 46 <;> by_cases q6 : (x : Int) = 45
      all_goals first | (exfalso; omega) | skip
      all_goals (clear hof hb HL; go_wp2; go_roundw)
      all_goals first | exact ⟨k + 1, by omega, by go_num, rfl⟩ | (simp [intOf]; omega)
    · have h2 : ¬ (k : Int) < nm.size := by omega
      clear G3 PA
      go_upto_region 17 with (first | (go_at_call 16; refine (HC.out _ _ _ J3.out).mono ?_; rintro e w4 ⟨⟨r4, rfl⟩, d4⟩; have J4 := hide (J3.out.disk d4); clear d4))
      clear J3 HC
      have hs := HS.out
      by_cases hl : s.size ≤ 65536
      · have HX := hide (HA1.out hl)
        clear HA1 HA2 hl hs HF2
        go_wp2_with (first | (go_at_call_of 21 (Value.pointer none); refine (getJ_nil _).mono ?_; rintro e wn ⟨rfl, hw⟩; subst wn) | (go_at_call_of 17 (Value.pointer none); refine (add_nil _ _).mono ?_; rintro e wn ⟨rfl, hw⟩; subst wn) | (go_at_call_of 18 (Value.pointer none); refine (flush_nil _).mono ?_; rintro e wn ⟨rfl, hw⟩; subst wn) | (go_at_call_of 22 (Value.pointer none); refine (cut_nil _).mono ?_; rintro e wn ⟨rfl, hw⟩; subst wn) | (go_at_call_of 19 (Value.pointer none); refine (renew_nil _).mono ?_; rintro e wn ⟨rfl, hw⟩; subst wn) | (go_at_call_of 20 (Value.pointer none); refine (deadJ_nil _).mono ?_; rintro e wn ⟨rfl, hw⟩; subst wn) | (go_at_call 23; refine (allJ_nil _).mono ?_; rintro e wn ⟨rfl, hw⟩; subst wn) | (go_at_call 24; refine (lenJ_nil _).mono ?_; rintro e wn ⟨rfl, hw⟩; subst wn) | (go_at_call 25; refine (epochJ_nil _).mono ?_; rintro e wn ⟨rfl, hw⟩; subst wn) | (go_at_call 26; refine (tornJ_nil _).mono ?_; rintro e wn ⟨rfl, hw⟩; subst wn) | (go_at_call 27; refine (sizeJ_nil _).mono ?_; rintro e wn ⟨rfl, hw⟩; subst wn) | (go_at_call 17; refine (HX.out _ _ _ J4.out).mono ?_; rintro e w5 ⟨rfl, j5⟩; have J5 := hide j5; clear j5) | (go_at_call 18; refine (HF1.out _ _ _ J5.out).mono ?_; rintro e w6 ⟨rfl, hw⟩; subst w6) | (go_at_call 19; refine (HRn.out _ _ _ J5.out).mono ?_; rintro e w6 ⟨rfl, hw⟩; subst w6) | (go_at_call 20; refine (HDd.out _ _ _ J5.out).mono ?_; rintro e w6 ⟨rfl, hw⟩; subst w6) | (go_at_call 15; refine (HD.out _ _ J5.out.db).mono ?_; rintro e w7 ⟨rfl, b7⟩; have B7 := hide (below_next J5.out.bel b7); clear b7))
        go_ret
        exact ⟨rfl, B7.out⟩
      · have HX := hide (HA2.out (by omega))
        clear HA1 HA2 hl hs HF1
        go_wp2_with (first | (go_at_call_of 21 (Value.pointer none); refine (getJ_nil _).mono ?_; rintro e wn ⟨rfl, hw⟩; subst wn) | (go_at_call_of 17 (Value.pointer none); refine (add_nil _ _).mono ?_; rintro e wn ⟨rfl, hw⟩; subst wn) | (go_at_call_of 18 (Value.pointer none); refine (flush_nil _).mono ?_; rintro e wn ⟨rfl, hw⟩; subst wn) | (go_at_call_of 22 (Value.pointer none); refine (cut_nil _).mono ?_; rintro e wn ⟨rfl, hw⟩; subst wn) | (go_at_call_of 19 (Value.pointer none); refine (renew_nil _).mono ?_; rintro e wn ⟨rfl, hw⟩; subst wn) | (go_at_call_of 20 (Value.pointer none); refine (deadJ_nil _).mono ?_; rintro e wn ⟨rfl, hw⟩; subst wn) | (go_at_call 23; refine (allJ_nil _).mono ?_; rintro e wn ⟨rfl, hw⟩; subst wn) | (go_at_call 24; refine (lenJ_nil _).mono ?_; rintro e wn ⟨rfl, hw⟩; subst wn) | (go_at_call 25; refine (epochJ_nil _).mono ?_; rintro e wn ⟨rfl, hw⟩; subst wn) | (go_at_call 26; refine (tornJ_nil _).mono ?_; rintro e wn ⟨rfl, hw⟩; subst wn) | (go_at_call 27; refine (sizeJ_nil _).mono ?_; rintro e wn ⟨rfl, hw⟩; subst wn) | (go_at_call 17; refine (HX.out _ _ _ J4.out).mono ?_; rintro e w5 ⟨rfl, j5⟩; have J4 := hide j5; clear j5) | (go_at_call 18; refine (HF2.out _ _ _ J4.out).mono ?_; rintro e w6 ⟨rfl, j6⟩; have J5 := hide j6; clear j6) | (go_at_call 19; refine (HRn.out _ _ _ J5.out).mono ?_; rintro e w6 ⟨rfl, hw⟩; subst w6) | (go_at_call 20; refine (HDd.out _ _ _ J5.out).mono ?_; rintro e w6 ⟨rfl, hw⟩; subst w6) | (go_at_call 15; refine (HD.out _ _ J5.out.db).mono ?_; rintro e w7 ⟨rfl, b7⟩; have B7 := hide (below_next J5.out.bel b7); clear b7))
        go_ret
        exact ⟨rfl, B7.out⟩
end
end Go.Proofs.YtgncphoaknffnaaDoor
