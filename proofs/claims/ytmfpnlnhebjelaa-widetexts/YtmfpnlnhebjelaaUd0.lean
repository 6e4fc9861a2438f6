/- The contract of wide.Parse. -/
import Derived.Test.YtmfpnlnhebjelaaUa0
namespace Go.Proofs.Ytmfpnlnhebjelaa
open Go.RowKit
open Go.Deep
/-- The number of the first i digits. -/
def pv (l : List UInt8) : Nat → Nat
  | 0 => 0
  | i + 1 => pv l i * 10 + (by8 l i - 48)
/-- The byte i may go on. -/
def okp (l : List UInt8) (i : Nat) : Prop := 48 ≤ by8 l i ∧ by8 l i ≤ 57 ∧ pv l (i + 1) < M ∧ (i = 0 ∨ pv l i ≠ 0)
theorem digit_any (l : List UInt8) (i : Nat) (hA : pv l i < M) : ∃ (Y : Nat) (g : Bool), (∀ W, Calls Try.prog 42 #[.agg (wn (pv l i)), .int .u8 (by8 l i : Int)] W fun e w' => e = .returned (.tuple #[.agg (wn Y), .bool g]) ∧ Below W.heap.size W w') ∧ (g = true → 48 ≤ by8 l i ∧ by8 l i ≤ 57 ∧ pv l (i + 1) < M ∧ Y = pv l (i + 1)) ∧ (g = false → ¬ (48 ≤ by8 l i ∧ by8 l i ≤ 57 ∧ pv l (i + 1) < M)) := by
  by_cases h : 48 ≤ by8 l i ∧ by8 l i ≤ 57
  · refine ⟨pv l (i + 1), decide (pv l (i + 1) < M), fun W => ?_, fun hg => ⟨h.1, h.2, of_decide_eq_true hg, rfl⟩, fun hg h' => absurd h'.2.2 (of_decide_eq_false hg)⟩
    exact digit_yes (pv l i) (by8 l i) (by8 l i - 48) hA (by omega) (by omega) W
  · refine ⟨0, false, fun W => digit_no (pv l i) (by8 l i) (by omega) W, fun hg => (by cases hg), fun _ h' => h ⟨h'.1, h'.2.1⟩⟩
theorem by8_get (s : ByteArray) (i : Nat) (h : i < s.size) : by8 s.data.toList i = s[i].toNat := by
  have h' : i < s.data.toList.length := by simpa using h
  rw [by8, List.getD_eq_getElem?_getD, List.getElem?_eq_getElem h']
  rfl
theorem empty_iff (s : ByteArray) : s.toList.isEmpty = decide (s.size = 0) := by
  rw [ByteArray.toList_eq, Bool.eq_iff_iff, List.isEmpty_iff, decide_eq_true_eq, ← List.length_eq_zero_iff]
  exact Iff.rfl
theorem pv_lt (l : List UInt8) (i : Nat) (h : ∀ j, j < i → okp l j) : pv l i < M := by
  rcases i with _ | i
  · exact M_pos
  · exact (h i (by omega)).2.2.1
attribute [local go_sem ↓] ldW_eq svW_eq
section
set_option maxRecDepth 10000
set_option maxHeartbeats 4000000
theorem parse_any (s : ByteArray) (hs : s.size ≤ 9223372036854775807) (w : World) : Calls Try.prog 16 #[.string s] w fun e w' => ((∃ i, i < s.size ∧ (∀ j, j < i → okp s.data.toList j) ∧ ¬ okp s.data.toList i ∧ e = .returned (.tuple #[.agg (wn 0), .int .i64 (i : Int), .int .i64 41])) ∨ (s.size = 0 ∧ e = .returned (.tuple #[.agg (wn 0), .int .i64 0, .int .i64 41])) ∨ (0 < s.size ∧ (∀ j, j < s.size → okp s.data.toList j) ∧ e = .returned (.tuple #[.agg (wn (pv s.data.toList s.size)), .int .i64 0, .int .i64 0]))) ∧ Below w.heap.size w w' := by
  have J0 : Hid (Rs w ((w.alloc (.cells (wn 0) 24)).alloc (.cells (wn 0) 24)) [(w.heap.size + 1, 24, 0), (w.heap.size, 24, 0)]) := Rs.start2 w 24 0 0
  have HS := hide hs
  clear hs
  go_enter Try.func16, Try.ntmps16
  go_wp2_with (refine wpList_allocA AW rfl rfl ?_)
  generalize (w.alloc (.cells (wn 0) 24)).alloc (.cells (wn 0) 24) = W0 at *
  go_loopw [6, 7, 8, 11] (fun _ _ _ d wr => ∃ i : Nat, i ≤ s.size ∧ d = .int .i64 i ∧ Hid (Rs w wr [(w.heap.size + 1, 24, pv s.data.toList i), (w.heap.size, 24, 0)]) ∧ Hid (∀ j, j < i → okp s.data.toList j)) (fun _ _ _ d _ => (s.size - intOf d).toNat)
  case atStart => exact ⟨0, Nat.zero_le _, rfl, J0, fun j hj => by omega⟩
  case round =>
    clear J0
    obtain ⟨i, hi, rfl, J, O⟩ := hrel
    have hs := HS.out
    by_cases hlt : i < s.size
    · have hi4 : (i : Int) < (s.size : Int) := by omega
      have i0 : (0 : Int) ≤ i := by omega
      obtain ⟨Y, g, HD, hg1, hg2⟩ := digit_any s.data.toList i (pv_lt _ i O.out)
      have HO : Hid ((g = true ∧ (i = 0 ∨ pv s.data.toList i ≠ 0) → okp s.data.toList i ∧ Y = pv s.data.toList (i + 1)) ∧ (g = false → ¬ okp s.data.toList i) ∧ (i ≠ 0 → pv s.data.toList i = 0 → ¬ okp s.data.toList i)) := by
        refine ⟨fun h => ?_, fun h h' => hg2 h ⟨h'.1, h'.2.1, h'.2.2.1⟩, fun h1 h2 h' => ?_⟩
        · obtain ⟨a1, a2, a3, a4⟩ := hg1 h.1
          exact ⟨⟨a1, a2, a3, h.2⟩, a4⟩
        · rcases h'.2.2.2 with h3 | h3
          · exact h1 h3
          · exact h3 h2
      have HDW : Hid (∀ W, Calls Try.prog 42 #[.agg (wn (pv s.data.toList i)), .int .u8 (s[i].toNat : Int)] W fun e w' => e = .returned (.tuple #[.agg (wn Y), .bool g]) ∧ Below W.heap.size W w') := fun W => by
        rw [← by8_get s i hlt]
        exact HD W
      have HZ := hide fun W => zero_any _ (pv_lt _ i O.out) W
      have hiw : IntKind.i64.wrap ((i : Int) + 1) = i + 1 := wrapI _ (by omega) (by omega)
      have IL := hide (And.intro hlt (show ((s.size : Int) - ((i + 1 : Nat) : Int)).toNat < ((s.size : Int) - (i : Int)).toNat by omega))
      clear HD hg1 hg2 hs hi
      have rA := hide (J.out.at (g := w.heap.size + 1) (t := 24) (n := pv s.data.toList i) (by simp))
      generalize hA : pv s.data.toList i = A at *
      have HA := hide hA
      clear hA
      go_upto_region 5 with fail
      go_cut [7, 8] from 14 to 21 (fun s7 s8 wx => ∃ g7, s7 = .pointer (some ⟨g7, 0, none⟩) ∧ s8 = .bool g ∧ Hid (Rs w wx [(g7, 24, Y), (w.heap.size + 1, 24, A), (w.heap.size, 24, 0)]))
      case first =>
        go_region_held3 (fun w' => Below wr.heap.size wr w' ∧ (ldW (.pointer (some ⟨w.heap.size + 1, 0, none⟩))).run Try.prog w' = .ok (.agg (wn A)) w') (first | assumption | exact (fun hb => ⟨hb, ldB rA.out hb⟩) ((Below.refl _ _).drew) | exact (fun hb => ⟨hb, ldB rA.out hb⟩) (below_next (And.left (by assumption)) be) | exact (fun hb => ⟨hb, ldB rA.out hb⟩) (bel_alloc (And.left (by assumption)) _) | exact (fun hb => ⟨hb, ldB rA.out hb⟩) (bel_put (And.left (by assumption)) (by first | exact Nat.le_refl _ | exact sz1.out) _)) (first | (go_at_call 42; refine (HDW.out _).mono ?_; rintro e w1 ⟨rfl, be⟩; have sz1 : Hid (wr.heap.size ≤ w1.heap.size) := bel_size (below_next (And.left (by assumption)) be); (try have z1 := hide (zero_kept_drew be)); (first | have s1 := svW_row z1.out Y | have s1 := svW_new w1 Y)))
        all_goals (go_wp2_with fail; go_meet; first | exact ⟨_, rfl, rfl, (J.out.next (And.left (by assumption))).cons (row_new _ _)⟩ | exact ⟨_, rfl, rfl, (J.out.next (And.left (by assumption))).cons (setRow_heap _ _ _ _ _ _ z1.out)⟩)
      obtain ⟨g7, rfl, rfl, J1⟩ := hcut
      generalize wc = W1 at *
      clear J rA HDW
      have rY := hide (J1.out.at (g := g7) (t := 24) (n := Y) (by simp))
      have rA := hide (J1.out.at (g := w.heap.size + 1) (t := 24) (n := A) (by simp))
      have r0 := hide (J1.out.at (g := w.heap.size) (t := 24) (n := 0) (by simp))
      cases g
      · have NO := hide (HO.out.2.1 rfl)
        clear HZ
        go_wp2_with (first | refine wpList_buildA AW rfl rfl ?_ | refine wpList_storeA AW rfl _ _ rfl _ (wn 0) (wn_size _) (wn_one _) rfl rfl (wn 0) (wn_size 0) 24 r0.out ?_)
        exact bodyPost_ret (v := .tuple #[.agg (wn 0), .int .i64 (i : Int), .int .i64 41]) (resA3 AW Try.results16 _ _ w.heap.size 24 (wn 0) (wn_size _) rfl (setRow_heap _ _ _ _ _ _ r0.out) _ (by rfl) _ (by rfl)) rfl ⟨.inl ⟨i, IL.out.1, O.out, NO.out, rfl⟩, below_setRow J1.out.bel (Nat.le_refl _) _⟩
      · by_cases hz : i = 0
        · have hz2 : decide ((0 : Int) < (i : Int)) = false := by simp; omega
          have hz3 : ¬ (0 : Int) < (i : Int) := by omega
          have hz4 : ¬ 0 < i := by omega
          have OK := hide (HO.out.1 ⟨rfl, .inl hz⟩)
          clear hz HZ HO
          go_wp2_with (first | refine wpList_loadA AW rfl _ rfl g7 rfl (wn Y) (wn_size _) 24 rY.out ?_ | refine wpList_storeA AW rfl _ _ rfl _ (wn Y) (wn_size _) (wn_one _) rfl rfl (wn A) (wn_size _) 24 rA.out ?_)
          have L1 := IL.out
          refine ⟨⟨i + 1, by omega, by go_num, ?_, fun j hj => ?_⟩, by simpa [intOf] using IL.out.2⟩
          · rw [← OK.out.2]
            exact Rs.put J1.out (w.heap.size + 1) 24 Y ⟨A, by simp⟩ (by omega) (fun p hp => by
              simp only [List.mem_cons, List.not_mem_nil, or_false] at hp
              rcases hp with rfl | rfl
              · exact .inl rfl
              · exact .inr ⟨by simp, by simp⟩)
          · rcases Nat.lt_or_ge j i with h | h
            · exact O.out j h
            · rw [show j = i by omega]
              exact OK.out.1
        · have hz2 : decide ((0 : Int) < (i : Int)) = true := by simp; omega
          have hz3 : (0 : Int) < (i : Int) := by omega
          have hz4 : 0 < i := by omega
          by_cases hA0 : A = 0
          · have NO := hide (HO.out.2.2 hz hA0)
            rw [show decide (A = 0) = true by simp [hA0]] at HZ
            clear hz hA0 HO HA
            go_wp2_with (first | refine wpList_loadW AW rfl _ rfl (w.heap.size + 1) rfl (wn A) (wn_size _) 24 rA.out ?_ | (go_at_call 38; refine (HZ.out _).mono ?_; rintro e w2 ⟨rfl, be⟩; have J2 := hide (J1.out.next be); have q0 := hide (J2.out.at (g := w.heap.size) (t := 24) (n := 0) (by simp)); clear be) | refine wpList_buildA AW rfl rfl ?_ | refine wpList_storeA AW rfl _ _ rfl _ (wn 0) (wn_size _) (wn_one _) rfl rfl (wn 0) (wn_size 0) 24 q0.out ?_)
            exact bodyPost_ret (v := .tuple #[.agg (wn 0), .int .i64 (i : Int), .int .i64 41]) (resA3 AW Try.results16 _ _ w.heap.size 24 (wn 0) (wn_size _) rfl (setRow_heap _ _ _ _ _ _ q0.out) _ (by rfl) _ (by rfl)) rfl ⟨.inl ⟨i, IL.out.1, O.out, NO.out, rfl⟩, below_setRow J2.out.bel (Nat.le_refl _) _⟩
          · have OK := hide (HO.out.1 ⟨rfl, .inr hA0⟩)
            rw [show decide (A = 0) = false by simp [hA0]] at HZ
            clear hz hA0 HO HA
            go_wp2_with (first | refine wpList_loadW AW rfl _ rfl (w.heap.size + 1) rfl (wn A) (wn_size _) 24 rA.out ?_ | (go_at_call 38; refine (HZ.out _).mono ?_; rintro e w2 ⟨rfl, be⟩; have J2 := hide (J1.out.next be); have q1 := hide (J2.out.at (g := w.heap.size + 1) (t := 24) (n := A) (by simp)); have qY := hide (J2.out.at (g := g7) (t := 24) (n := Y) (by simp)); clear be) | refine wpList_loadA AW rfl _ rfl g7 rfl (wn Y) (wn_size _) 24 qY.out ?_ | refine wpList_storeA AW rfl _ _ rfl _ (wn Y) (wn_size _) (wn_one _) rfl rfl (wn A) (wn_size _) 24 q1.out ?_)
            have L1 := IL.out
            refine ⟨⟨i + 1, by omega, by go_num, ?_, fun j hj => ?_⟩, by simpa [intOf] using IL.out.2⟩
            · rw [← OK.out.2]
              exact Rs.put J2.out (w.heap.size + 1) 24 Y ⟨A, by simp⟩ (by omega) (fun p hp => by
                simp only [List.mem_cons, List.not_mem_nil, or_false] at hp
                rcases hp with rfl | rfl
                · exact .inl rfl
                · exact .inr ⟨by simp, by simp⟩)
            · rcases Nat.lt_or_ge j i with h | h
              · exact O.out j h
              · rw [show j = i by omega]
                exact OK.out.1
    · have hke : i = s.size := by omega
      subst hke
      have hnl : ¬ (s.size : Int) < (s.size : Int) := by omega
      have r1 := hide (J.out.at (g := w.heap.size + 1) (t := 24) (n := pv s.data.toList s.size) (by simp))
      have r0 := hide (J.out.at (g := w.heap.size) (t := 24) (n := 0) (by simp))
      clear hs hi hlt
      by_cases h0 : s.size = 0
      · have hse : s.toList.isEmpty = true := by rw [empty_iff, h0]; rfl
        have H0 := hide h0
        clear h0
        go_wp2_with (first | refine wpList_buildA AW rfl rfl ?_ | refine wpList_storeA AW rfl _ _ rfl _ (wn 0) (wn_size _) (wn_one _) rfl rfl (wn 0) (wn_size 0) 24 r0.out ?_)
        exact bodyPost_ret (v := .tuple #[.agg (wn 0), .int .i64 0, .int .i64 41]) (resA3 AW Try.results16 _ _ w.heap.size 24 (wn 0) (wn_size _) rfl (setRow_heap _ _ _ _ _ _ r0.out) _ (by rfl) _ (by rfl)) rfl ⟨.inr (.inl ⟨by simpa using H0.out, rfl⟩), below_setRow J.out.bel (Nat.le_refl _) _⟩
      · have H0 := hide (show 0 < s.size by omega)
        have hse : s.toList.isEmpty = false := by rw [empty_iff]; simp [h0]
        clear h0
        go_wp2_with (first | refine wpList_loadA AW rfl _ rfl (w.heap.size + 1) rfl (wn (pv s.data.toList s.size)) (wn_size _) 24 r1.out ?_ | refine wpList_storeA AW rfl _ _ rfl _ (wn (pv s.data.toList s.size)) (wn_size _) (wn_one _) rfl rfl (wn 0) (wn_size 0) 24 r0.out ?_)
        exact bodyPost_ret (v := .tuple #[.agg (wn (pv s.data.toList s.size)), .int .i64 0, .int .i64 0]) (resA3 AW Try.results16 _ _ w.heap.size 24 (wn (pv s.data.toList s.size)) (wn_size _) rfl (setRow_heap _ _ _ _ _ _ r0.out) _ (by rfl) _ (by rfl)) rfl ⟨.inr (.inr ⟨H0.out, O.out, rfl⟩), below_setRow J.out.bel (Nat.le_refl _) _⟩
end
end Go.Proofs.Ytmfpnlnhebjelaa
