/- The walk of StoreRecords. -/
import Derived.Test.YtppooipamibhoaaGreatDoorOj
namespace Go.Proofs.YtppooipamibhoaaGreatDoor
open Go.RowKit
open Go.Deep
open Go.Lib
set_option linter.unusedVariables false
set_option linter.unusedSimpArgs false
section
set_option maxRecDepth 10000
set_option maxHeartbeats 8000000
theorem storeRecords_ok (s nm : ByteArray) (F A N : Int) (hs : s.size ≤ 140737488351232) (hm : nm.size ≤ 140737488351232) (hn : nameO (lsD nm) = true) (w : World) (hK : Kg w) : Calls Tryz.prog 8 #[.string s, .string nm, .agg #[.int .i64 F, .int .i64 A, .int .i64 N]] w fun e w' => e = .returned (.bool true) ∧ Below w.heap.size w w' := by
  have b0 := (Below.refl w.heap.size w).alloc (Nat.le_refl _) (.cells #[.int .i64 F, .int .i64 A, .int .i64 N] 105)
  have p0 : PO (w.alloc (.cells #[.int .i64 F, .int .i64 A, .int .i64 N] 105)) w.heap.size F A N := heap_alloc_last w _
  have B0 := hide b0
  have P0 := hide p0
  have KW := hide hK
  have HN := hide fun W => newD_any W
  have HA := hide fun W (b : Below w.heap.size w W) => awakeO_any W (hK.next b)
  have HO0 := hide fun W => openO_nil nm 1024 W
  have HPn : Hid (∀ W, Below w.heap.size w W → Calls Tryz.prog 39 #[.pointer none, .string s] W fun e w' => e = .returned (.tuple #[.agg #[.int .i64 0, .int .i64 0, .int .i64 0], .int .i64 180]) ∧ Below W.heap.size W w') := fun W b => putO_nil s hs W (hK.next b)
  clear b0 p0 hK
  obtain ⟨pa, p1, p2⟩ := nameO_parts hn
  have n1 := nonemptyO p1
  have n2 : ¬ (20 : Int) < nm.size := by omega
  have PA0 := hide pa
  have G3 : Hid ((nm.toList.isEmpty || decide ((20 : Int) < nm.size)) = false) := by
    show _ = _
    rw [decide_eq_false (by omega), Bool.or_false]
    cases hq : nm.toList.isEmpty with
    | false => rfl
    | true => exact absurd (List.isEmpty_iff.1 hq) (nonemptyO p1)
  have HO : Hid (∀ gd W T, DK W gd x0 T → Calls Tryz.prog 33 #[.pointer (some ⟨gd, 0, none⟩), .string nm, .int .i64 1024] W fun e w' => ∃ sd, e = .returned (.tuple #[.pointer (some ⟨sd, 0, none⟩), .int .i64 0]) ∧ SO w' sd gd nm 1024 0 ∧ W.heap.size ≤ sd ∧ Below W.heap.size W w') := fun gd W T d => openO_new d nm hn rfl n0 (last0 _) 1024 (by decide) (by decide)
  have HC := hide fun gd W T (d : DK W gd x0 T) => crash_any gd x0 T 0 0 W d Vd.x0 (by decide) (by decide)
  have nc : (crC x0 0 0).now.n < 1000000 := by decide
  have HG : Hid (∀ gd sd W T, SO W sd gd nm 1024 0 → DK W gd (crC x0 0 0) T → Calls Tryz.prog 43 #[.pointer (some ⟨sd, 0, none⟩), .agg #[.int .i64 F, .int .i64 A, .int .i64 N]] W fun e w' => e = .returned (.tuple #[.string ⟨#[]⟩, .int .i64 7]) ∧ Below W.heap.size W w') := fun gd sd W T s d => get_err s d p2 nc F A N (by show (7 : Int) ≠ 0; decide)
  have HFl := hide fun gd sd W T (s : SO W sd gd nm 1024 0) (d : DK W gd (crC x0 0 0) T) => flushO_dead s d rfl
  have HSz := hide fun gd sd W T (s : SO W sd gd nm 1024 0) (d : DK W gd (crC x0 0 0) T) => sizeO_none s d p2 nc (files0 _)
  have HOd : Hid (∀ gd W T, DK W gd (crC x0 0 0) T → Calls Tryz.prog 33 #[.pointer (some ⟨gd, 0, none⟩), .string nm, .int .i64 1024] W fun e w' => e = .returned (.tuple #[.pointer none, .int .i64 7]) ∧ Below W.heap.size W w') := fun gd W T d => openO_dead d nm hn rfl 1024 (by decide) (by decide)
  clear hn pa nc
  go_enter Tryz.func8, Tryz.ntmps8
  go_upto_region 1 with fail
  generalize w.alloc (.cells #[.int .i64 F, .int .i64 A, .int .i64 N] 105) = W0 at *
  go_cut [7, 8] from 25 to 29 (fun s7 s8 wx => ∃ (t : ByteArray) (E : Int), s7 = .string t ∧ s8 = .int .i64 E ∧ Hid (Below w.heap.size w wx ∧ PO wx w.heap.size F A N) ∧ Hid (((s.size = 0 ∨ 8192 < s.size) → t = ⟨#[]⟩ ∧ E = 180) ∧ (¬ (s.size = 0 ∨ 8192 < s.size) → t = txt (recO s.data.toList) ∧ E = 0)))
  case first =>
    by_cases hl : s.size = 0 ∨ 8192 < s.size
    · have HR := hide (recO_no s (by omega) (by unfold maxLen; omega) W0)
      have HB := hide hl
      clear hl HN HO0 HPn hs hm
      go_wp2_with (first | (go_at_call 46; refine HR.out.mono ?_; rintro e w1 ⟨rfl, hw⟩; subst w1))
      go_meet
      exact ⟨_, _, rfl, rfl, ⟨B0.out, P0.out⟩, ⟨fun _ => ⟨rfl, rfl⟩, fun h => absurd HB.out h⟩⟩
    · have HR := hide (recO_yes s (by omega) (by omega) W0 (KW.out.next B0.out))
      have HB := hide hl
      clear hl HN HO0 HPn hs hm
      go_wp2_with (first | (go_at_call 46; refine HR.out.mono ?_; rintro e w1 ⟨rfl, b1⟩; have P1 := hide (P0.out.next b1); have B1 := hide (below_next B0.out b1); clear b1))
      go_meet
      exact ⟨_, _, rfl, rfl, ⟨B1.out, P1.out⟩, ⟨fun h => absurd h HB.out, fun _ => ⟨rfl, rfl⟩⟩⟩
  case rest =>
  obtain ⟨t, E, rfl, rfl, BP, TE⟩ := hcut
  go_upto_region 4 with (go_at_call 34; refine (HA.out _ BP.out.1).mono ?_; rintro e w2 ⟨rfl, b2⟩; have P2 := hide (BP.out.2.next b2); have B2 := hide (below_next BP.out.1 b2); clear b2)
  go_cut [38] from 32 to 37 (fun s38 wx => s38 = .bool (decide (s.size = 0 ∨ 8192 < s.size)) ∧ wx = w2)
  case first =>
    by_cases h0 : s.size = 0
    · have g1 := isemptyO h0
      have HD : Hid (decide (s.size = 0 ∨ 8192 < s.size) = true) := decide_eq_true (.inl h0)
      clear HN HO0 HPn hs hm h0
      go_wp2
      go_meet
      exact ⟨by first | (rw [HD.out]; done) | (rw [HD.out]; simp [g1]), rfl⟩
    · have g1 := nonemptyO (nm := s) (by omega)
      by_cases hl : 8192 < s.size
      · have g2 : (8192 : Int) < s.size := by omega
        have HD : Hid (decide (s.size = 0 ∨ 8192 < s.size) = true) := decide_eq_true (.inr hl)
        clear HN HO0 HPn hs hm h0 hl
        go_wp2
        go_meet
        exact ⟨by first | (rw [HD.out]; done) | (rw [HD.out]; simp [g1]), rfl⟩
      · have g2 : ¬ (8192 : Int) < s.size := by omega
        have HD : Hid (decide (s.size = 0 ∨ 8192 < s.size) = false) := decide_eq_false (by omega)
        clear HN HO0 HPn hs hm h0 hl
        go_wp2
        go_meet
        exact ⟨by first | (rw [HD.out]; done) | (rw [HD.out]; simp [g1]), rfl⟩
  case rest =>
  obtain ⟨rfl, hwc⟩ := hcut
  subst hwc
  generalize hc : decide (s.size = 0 ∨ 8192 < s.size) = c at *
  go_upto_if 38 with fail
  go_cut [6] from 39 to 52 (fun s6 wx => s6 = .bool false ∧ Hid (Below w.heap.size w wx ∧ PO wx w.heap.size F A N))
  case first =>
    by_cases hl : s.size = 0 ∨ 8192 < s.size
    · obtain ⟨rfl, rfl⟩ := TE.out.1 hl
      have e : c = true := by rw [← hc]; exact decide_eq_true hl
      subst e
      clear hc HN HO0 HPn hs hm hl TE
      go_wp2
      go_meet
      exact ⟨rfl, B2.out, P2.out⟩
    · obtain ⟨rfl, rfl⟩ := TE.out.2 hl
      have HRr := hide fun W => rrecO_any s (by omega) W
      have e : c = false := by rw [← hc]; exact decide_eq_false hl
      subst e
      clear hc HN HO0 HPn hs hm hl TE
      generalize txt (recO s.data.toList) = rt at *
      go_wp2_with (go_at_call 47; refine (HRr.out _).mono ?_; rintro e w3 ⟨rfl, b3⟩; have P3 := hide (P2.out.next b3); have B3 := hide (below_next B2.out b3); clear b3)
      go_meet
      exact ⟨rfl, B3.out, P3.out⟩
  case rest =>
  obtain ⟨rfl, BX⟩ := hcut
  clear TE P2 B2 BP hc
  have LX := hide BX.out.2.lt
  go_upto_region 14 with (first | (go_at_call 32; refine (HN.out _).mono ?_; rintro e w1 ⟨rfl, d1, b1⟩; have D1 : Hid (DK w1 wc.heap.size x0 (fun g => g = wc.heap.size)) := d1; have B1 := hide (below_next BX.out.1 b1); have P1 := hide (BX.out.2.next b1); clear d1 b1) | (go_at_call_of 33 (Value.pointer none); refine (HO0.out _).mono ?_; rintro e w2 ⟨rfl, hw⟩; subst w2) | (go_at_call 33; refine (HO.out _ _ _ D1.out).mono ?_; rintro e w2 ⟨sd, rfl, s2, l2, b2⟩; have S2 := hide s2; have D2 := hide (D1.out.below b2); have B2 := hide (below_next B1.out b2); have P2 := hide (P1.out.next b2); have L2 : Hid (¬ sd = wc.heap.size) := (fun e => by have := D1.out.lt wc.heap.size rfl; omega); clear s2 l2 b2))
  clear HO HO0 HN D1 B1 P1
  go_loop [13, 74] (fun l i => ∃ k : Nat, k ≤ nm.size ∧ i = .int .i64 (k : Int) ∧ l = .bool false) (fun l i => (nm.size - intOf i).toNat)
  case atStart => exact ⟨0, Nat.zero_le _, rfl, by rw [G3.out]⟩
  case round =>
    obtain ⟨k, hk, rfl, rfl⟩ := hrel
    by_cases hlt : k < nm.size
    · have h1 : (0 : Int) ≤ (k : Int) := by omega
      have h2 : (k : Int) < nm.size := by omega
      have hof := (ofNameO_iff _).1 (allO_at PA0.out k hlt)
      have e1 : IntKind.i64.wrap ((k : Int) + 1) = k + 1 := wrapI _ (by omega) (by omega)
      have hb : (nm[k]'hlt).toNat < 256 := UInt8.toNat_lt _
      have HL : Hid (∀ x : Nat, (nm[k]'hlt).toNat = x → True) := fun _ _ => trivial
      generalize hx : (nm[k]'hlt).toNat = x at *
      by_cases q1 : (97 : Int) ≤ x <;> by_cases q2 : (x : Int) ≤ 122 <;> by_cases q3 : (48 : Int) ≤ x <;> by_cases q4 : (x : Int) ≤ 57 <;> by_cases q5 : (x : Int) = 46 <;> by_cases q6 : (x : Int) = 45
      all_goals first | (exfalso; omega) | skip
      all_goals (clear hof hb HL; go_wp2; go_roundw)
      all_goals first | exact ⟨k + 1, by omega, by go_num, rfl⟩ | (simp [intOf]; omega)
    · have h2 : ¬ (k : Int) < nm.size := by omega
      clear G3 PA0
      go_upto_region 23 with (first | (go_at_call 41; refine (HC.out _ _ _ D2.out).mono ?_; rintro e w4 ⟨⟨r4, rfl⟩, d4, f4⟩; have D4 := hide d4; have S4 := hide (S2.out.fr f4 L2.out); have B4 := hide (B2.out.trans (f4.below B2.out.size (fun g hg => by have := BX.out.1.size; omega))); have P4 : Hid (PO w4 w.heap.size F A N) := ((f4.block _ P2.out.lt (fun e => by have := LX.out; omega)).trans P2.out); clear d4 f4))
      clear D2 S2 P2 B2 HC
      go_upto_region 29 with (first | (go_at_call 43; refine (HG.out _ _ _ _ S4.out D4.out).mono ?_; rintro e w5 ⟨rfl, b5⟩; have D5 := hide (D4.out.below b5); have S5 := hide (S4.out.next b5); have B5 := hide (below_next B4.out b5); have P5 := hide (P4.out.next b5); clear b5) | (go_at_call 40; refine (HFl.out _ _ _ _ S5.out D5.out).mono ?_; rintro e w6 ⟨rfl, hw⟩; subst w6) | (go_at_call 48; refine (HSz.out _ _ _ _ S5.out D5.out).mono ?_; rintro e w6 ⟨rfl, b6⟩; have D6 := hide (D5.out.below b6); have B6 := hide (below_next B5.out b6); have P6 := hide (P5.out.next b6); clear b6) | (go_at_call 33; refine (HOd.out _ _ _ D6.out).mono ?_; rintro e w7 ⟨rfl, b7⟩; have B7 := hide (below_next B6.out b7); have P7 := hide (P6.out.next b7); clear b7) | ((with_reducible refine at_list ?_); refine wpList_loadA APo rfl _ rfl w.heap.size rfl #[.int .i64 F, .int .i64 A, .int .i64 N] rfl 105 P4.out ?_))
      clear HG HFl HSz HOd D4 S4 B4 P4 D5 S5 B5 P5 D6 B6 P6
      go_wp2_with (first | (go_at_call 39; refine (HPn.out _ B7.out).mono ?_; rintro e wa ⟨rfl, ba⟩; have bz := (Below.refl wa.heap.size wa).alloc (Nat.le_refl _) (.cells #[.int .i64 0, .int .i64 0, .int .i64 0] 105); have BA := hide (below_next (below_next B7.out ba) bz); have PA := hide ((P7.out.next ba).next bz); have RA := hide (heap_alloc_last wa (.cells #[.int .i64 0, .int .i64 0, .int .i64 0] 105)); clear ba bz) | (go_at_call_of 43 (Value.pointer none); refine (get_nil F A N _).mono ?_; rintro e wb ⟨rfl, bb⟩; have BB := hide (below_next BA.out bb); have PB := hide (PA.out.next bb); have RB := hide ((bb.block _ (lt_heap RA.out)).trans RA.out); have k0 := PB.out.c0; clear bb) | (go_at_call_of 45 (Value.pointer none); refine (scanO_nil _ _).mono ?_; rintro e wn ⟨rfl, hw⟩; subst wn) | (go_at_call_of 49 (Value.pointer none); refine (pruneO_nil _ _).mono ?_; rintro e wn ⟨rfl, hw⟩; subst wn) | (go_at_call_of 40 (Value.pointer none); refine (flushO_nil _).mono ?_; rintro e wn ⟨rfl, hw⟩; subst wn) | (go_at_call_of 44 (Value.pointer none); refine (files_nil _).mono ?_; rintro e wn ⟨rfl, hw⟩; subst wn) | (go_at_call_of 48 (Value.pointer none); refine (sizeO_nil _).mono ?_; rintro e wn ⟨rfl, hw⟩; subst wn) | (go_at_call_of 50 (Value.pointer none); refine (tornO_nil _).mono ?_; rintro e wn ⟨rfl, hw⟩; subst wn) | ((with_reducible refine at_list ?_); first | refine wpList_allocA APo rfl rfl ?_ | refine wpList_store_newA APo rfl _ _ rfl _ rfl #[.int .i64 0, .int .i64 0, .int .i64 0] rfl (po_one 0 0 0) rfl rfl ?_ | refine wpList_loadA APo rfl _ rfl w.heap.size rfl #[.int .i64 F, .int .i64 A, .int .i64 N] rfl 105 PA.out ?_ | refine wpList_loadA APo rfl _ rfl wa.heap.size rfl #[.int .i64 0, .int .i64 0, .int .i64 0] rfl 105 RB.out ?_))
      go_ret
      exact ⟨rfl, BB.out⟩
end
end Go.Proofs.YtppooipamibhoaaGreatDoor
