/- The walk of StoreRecords. -/
import Derived.Test.YtppooipamibhoaaGreatDoorX24
namespace Go.Proofs.YtppooipamibhoaaGreatDoor
open Go.RowKit
open Go.Deep
open Go.Lib
set_option linter.unusedVariables false
set_option linter.unusedSimpArgs false
theorem ofNameO_iff (c : UInt8) : ofName c = true ↔ ((97 : Int) ≤ c.toNat ∧ (c.toNat : Int) ≤ 122) ∨ ((48 : Int) ≤ c.toNat ∧ (c.toNat : Int) ≤ 57) ∨ (c.toNat : Int) = 46 ∨ (c.toNat : Int) = 45 := by
  unfold ofName
  simp
  omega
theorem allO_at {nm : ByteArray} (h : (lsD nm).all ofName = true) (k : Nat) (hk : k < nm.size) : ofName (nm[k]'hk) = true := by
  rw [List.all_eq_true] at h
  exact h _ (by show nm[k] ∈ nm.data.toList; exact Array.getElem_mem_toList (by simpa using hk))
theorem nameO_parts {nm : ByteArray} (h : nameO (lsD nm) = true) : (lsD nm).all ofName = true ∧ 1 ≤ nm.size ∧ nm.size ≤ 20 := by
  have h2 := nameO_size h
  unfold nameO isName at h
  simp only [Bool.and_eq_true, decide_eq_true_eq] at h
  have e := lsO_len nm
  exact ⟨h.1.1.1, by omega, h2⟩
theorem nameO_not {nm : ByteArray} (h : nameO (lsD nm) = false) (h1 : 1 ≤ nm.size) (h2 : nm.size ≤ 20) : (lsD nm).all ofName = false := by
  cases hc : (lsD nm).all ofName with
  | false => rfl
  | true =>
    exfalso
    have e := lsO_len nm
    have : nameO (lsD nm) = true := by
      unfold nameO isName
      rw [hc, e]
      simp
      omega
    rw [h] at this
    cases this
theorem nonemptyO {nm : ByteArray} (h : 1 ≤ nm.size) : ¬ nm.toList = [] := by
  rw [Lib.toList_data]
  intro e
  have h1 : nm.data.toList.length = 0 := by rw [e]; rfl
  have h2 : nm.data.toList.length = nm.size := by simp
  omega
theorem isemptyO {nm : ByteArray} (h : nm.size = 0) : nm.toList = [] := by
  rw [Lib.toList_data]
  apply List.eq_nil_of_length_eq_zero
  simpa using h
theorem snocO_all (nm : ByteArray) (k : Nat) (hk : k < nm.size) : ((lsD nm).take (k + 1)).all ofName = (((lsD nm).take k).all ofName && ofName (nm[k]'hk)) := by
  rw [List.take_succ_eq_append_getElem (by simpa using hk)]
  simp
  rfl
section
set_option maxRecDepth 10000
set_option maxHeartbeats 8000000
theorem storeRecords_empty (s nm : ByteArray) (F A N : Int) (hs : s.size ≤ 140737488351232) (hm : nm.size ≤ 140737488351232) (hn : nameO (lsD nm) = false) (h0 : nm.size = 0) (w : World) (hK : Kg w) : Calls Tryz.prog 8 #[.string s, .string nm, .agg #[.int .i64 F, .int .i64 A, .int .i64 N]] w fun e w' => e = .returned (.bool true) ∧ Below w.heap.size w w' := by
  have b0 := (Below.refl w.heap.size w).alloc (Nat.le_refl _) (.cells #[.int .i64 F, .int .i64 A, .int .i64 N] 105)
  have p0 : PO (w.alloc (.cells #[.int .i64 F, .int .i64 A, .int .i64 N] 105)) w.heap.size F A N := heap_alloc_last w _
  have B0 := hide b0
  have P0 := hide p0
  have KW := hide hK
  have HN := hide fun W => newD_any W
  have HA := hide fun W (b : Below w.heap.size w W) => awakeO_any W (hK.next b)
  have HO0 := hide fun W => openO_nil nm 1024 W
  have HPn : Hid (∀ W, Below w.heap.size w W → Calls Tryz.prog 39 #[.pointer none, .string s] W fun e w' => e = .returned (.tuple #[.agg #[.int .i64 0, .int .i64 0, .int .i64 0], .int .i64 180]) ∧ Below W.heap.size W w') := fun W b => putO_nil s hs W (hK.next b)
  clear b0 p0 hK
  have HO : Hid (∀ gd W, Calls Tryz.prog 33 #[.pointer (some ⟨gd, 0, none⟩), .string nm, .int .i64 1024] W fun e w' => e = .returned (.tuple #[.pointer none, .int .i64 70]) ∧ Below W.heap.size W w') := fun gd W => openO_name gd nm W (by unfold maxLen; omega) hn 1024 (by decide) (by decide)
  have n1 := isemptyO h0
  have H0 := hide h0
  clear hn h0
  go_enter Tryz.func8, Tryz.ntmps8
  go_upto_region 1 with fail
  generalize w.alloc (.cells #[.int .i64 F, .int .i64 A, .int .i64 N] 105) = W0 at *
  go_cut [7, 8] from 25 to 29 (fun s7 s8 wx => ∃ (t : ByteArray) (E : Int), s7 = .string t ∧ s8 = .int .i64 E ∧ Hid (Below w.heap.size w wx ∧ PO wx w.heap.size F A N) ∧ Hid (((s.size = 0 ∨ 8192 < s.size) → t = ⟨#[]⟩ ∧ E = 180) ∧ (¬ (s.size = 0 ∨ 8192 < s.size) → t = txt (recO s.data.toList) ∧ E = 0)))
  case first =>
    by_cases hl : s.size = 0 ∨ 8192 < s.size
    · have HR := hide (recO_no s (by omega) (by unfold maxLen; omega) W0)
      have HB := hide hl
      clear hl HN HO0 HPn hs hm
      go_wp2_with (first | (go_at_call 46; refine HR.out.mono ?_; rintro e w1 ⟨rfl, hw⟩; subst w1))
      go_meet
      exact ⟨_, _, rfl, rfl, ⟨B0.out, P0.out⟩, ⟨fun _ => ⟨rfl, rfl⟩, fun h => absurd HB.out h⟩⟩
    · have HR := hide (recO_yes s (by omega) (by omega) W0 (KW.out.next B0.out))
      have HB := hide hl
      clear hl HN HO0 HPn hs hm
      go_wp2_with (first | (go_at_call 46; refine HR.out.mono ?_; rintro e w1 ⟨rfl, b1⟩; have P1 := hide (P0.out.next b1); have B1 := hide (below_next B0.out b1); clear b1))
      go_meet
      exact ⟨_, _, rfl, rfl, ⟨B1.out, P1.out⟩, ⟨fun h => absurd h HB.out, fun _ => ⟨rfl, rfl⟩⟩⟩
  case rest =>
  obtain ⟨t, E, rfl, rfl, BP, TE⟩ := hcut
  go_upto_region 4 with (go_at_call 34; refine (HA.out _ BP.out.1).mono ?_; rintro e w2 ⟨rfl, b2⟩; have P2 := hide (BP.out.2.next b2); have B2 := hide (below_next BP.out.1 b2); clear b2)
  go_cut [38] from 32 to 37 (fun s38 wx => s38 = .bool (decide (s.size = 0 ∨ 8192 < s.size)) ∧ wx = w2)
  case first =>
    by_cases h0 : s.size = 0
    · have g1 := isemptyO h0
      have HD : Hid (decide (s.size = 0 ∨ 8192 < s.size) = true) := decide_eq_true (.inl h0)
      clear HN HO0 HPn hs hm h0
      go_wp2
      go_meet
      exact ⟨by first | (rw [HD.out]; done) | (rw [HD.out]; simp [g1]), rfl⟩
    · have g1 := nonemptyO (nm := s) (by omega)
      by_cases hl : 8192 < s.size
      · have g2 : (8192 : Int) < s.size := by omega
        have HD : Hid (decide (s.size = 0 ∨ 8192 < s.size) = true) := decide_eq_true (.inr hl)
        clear HN HO0 HPn hs hm h0 hl
        go_wp2
        go_meet
        exact ⟨by first | (rw [HD.out]; done) | (rw [HD.out]; simp [g1]), rfl⟩
      · have g2 : ¬ (8192 : Int) < s.size := by omega
        have HD : Hid (decide (s.size = 0 ∨ 8192 < s.size) = false) := decide_eq_false (by omega)
        clear HN HO0 HPn hs hm h0 hl
        go_wp2
        go_meet
        exact ⟨by first | (rw [HD.out]; done) | (rw [HD.out]; simp [g1]), rfl⟩
  case rest =>
  obtain ⟨rfl, hwc⟩ := hcut
  subst hwc
  generalize hc : decide (s.size = 0 ∨ 8192 < s.size) = c at *
  go_upto_if 38 with fail
  go_cut [6] from 39 to 52 (fun s6 wx => s6 = .bool false ∧ Hid (Below w.heap.size w wx ∧ PO wx w.heap.size F A N))
  case first =>
    by_cases hl : s.size = 0 ∨ 8192 < s.size
    · obtain ⟨rfl, rfl⟩ := TE.out.1 hl
      have e : c = true := by rw [← hc]; exact decide_eq_true hl
      subst e
      clear hc HN HO0 HPn hs hm hl TE
      go_wp2
      go_meet
      exact ⟨rfl, B2.out, P2.out⟩
    · obtain ⟨rfl, rfl⟩ := TE.out.2 hl
      have HRr := hide fun W => rrecO_any s (by omega) W
      have e : c = false := by rw [← hc]; exact decide_eq_false hl
      subst e
      clear hc HN HO0 HPn hs hm hl TE
      generalize txt (recO s.data.toList) = rt at *
      go_wp2_with (go_at_call 47; refine (HRr.out _).mono ?_; rintro e w3 ⟨rfl, b3⟩; have P3 := hide (P2.out.next b3); have B3 := hide (below_next B2.out b3); clear b3)
      go_meet
      exact ⟨rfl, B3.out, P3.out⟩
  case rest =>
  obtain ⟨rfl, BX⟩ := hcut
  clear TE P2 B2 BP hc
  go_upto_region 14 with (first | (go_at_call 32; refine (HN.out _).mono ?_; rintro e w1 ⟨rfl, d1, b1⟩; have B1 := hide (below_next BX.out.1 b1); have P1 := hide (BX.out.2.next b1); clear d1 b1) | (go_at_call_of 33 (Value.pointer none); refine (HO0.out _).mono ?_; rintro e w2 ⟨rfl, hw⟩; subst w2) | (go_at_call 33; refine (HO.out _ _).mono ?_; rintro e w2 ⟨rfl, b2⟩; have B2 := hide (below_next B1.out b2); have P2 := hide (P1.out.next b2); clear b2))
  clear HO HO0 HN B1 P1
  go_loop [13, 74] (fun l i => i = .int .i64 0 ∧ l = .bool true) (fun l i => 0)
  case atStart => exact ⟨rfl, rfl⟩
  case round =>
    obtain ⟨rfl, rfl⟩ := hrel
    have h2 : ¬ (0 : Int) < nm.size := by have := H0.out; omega
    go_wp2_with (first | (go_at_call 39; refine (HPn.out _ B2.out).mono ?_; rintro e wa ⟨rfl, ba⟩; have bz := (Below.refl wa.heap.size wa).alloc (Nat.le_refl _) (.cells #[.int .i64 0, .int .i64 0, .int .i64 0] 105); have BA := hide (below_next (below_next B2.out ba) bz); have PA := hide ((P2.out.next ba).next bz); have RA := hide (heap_alloc_last wa (.cells #[.int .i64 0, .int .i64 0, .int .i64 0] 105)); clear ba bz) | (go_at_call_of 43 (Value.pointer none); refine (get_nil F A N _).mono ?_; rintro e wb ⟨rfl, bb⟩; have BB := hide (below_next BA.out bb); have PB := hide (PA.out.next bb); have RB := hide ((bb.block _ (lt_heap RA.out)).trans RA.out); have k0 := PB.out.c0; clear bb) | (go_at_call_of 45 (Value.pointer none); refine (scanO_nil _ _).mono ?_; rintro e wn ⟨rfl, hw⟩; subst wn) | (go_at_call_of 49 (Value.pointer none); refine (pruneO_nil _ _).mono ?_; rintro e wn ⟨rfl, hw⟩; subst wn) | (go_at_call_of 40 (Value.pointer none); refine (flushO_nil _).mono ?_; rintro e wn ⟨rfl, hw⟩; subst wn) | (go_at_call_of 44 (Value.pointer none); refine (files_nil _).mono ?_; rintro e wn ⟨rfl, hw⟩; subst wn) | (go_at_call_of 48 (Value.pointer none); refine (sizeO_nil _).mono ?_; rintro e wn ⟨rfl, hw⟩; subst wn) | (go_at_call_of 50 (Value.pointer none); refine (tornO_nil _).mono ?_; rintro e wn ⟨rfl, hw⟩; subst wn) | ((with_reducible refine at_list ?_); first | refine wpList_allocA APo rfl rfl ?_ | refine wpList_store_newA APo rfl _ _ rfl _ rfl #[.int .i64 0, .int .i64 0, .int .i64 0] rfl (po_one 0 0 0) rfl rfl ?_ | refine wpList_loadA APo rfl _ rfl w.heap.size rfl #[.int .i64 F, .int .i64 A, .int .i64 N] rfl 105 PA.out ?_ | refine wpList_loadA APo rfl _ rfl wa.heap.size rfl #[.int .i64 0, .int .i64 0, .int .i64 0] rfl 105 RB.out ?_))
    go_ret
    exact ⟨rfl, BB.out⟩
end
end Go.Proofs.YtppooipamibhoaaGreatDoor
