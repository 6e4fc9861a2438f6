/- The store: Get; Open where no file is; dead disks; no store at all. The store: Put on a disk without files; Put of none; awake. The store: a disk with one record; awake. -/
import Derived.Test.YtppooipamibhoaaGreatDoorX23
namespace Go.Proofs.YtppooipamibhoaaGreatDoor
open Go.RowKit
open Go.Deep
open Go.Lib
set_option linter.unusedVariables false
set_option linter.unusedSimpArgs false
/-- A place's cells. -/
def PO (w : World) (g : Nat) (F A N : Int) : Prop := w.heap[g]? = some (.cells #[.int .i64 F, .int .i64 A, .int .i64 N] 105 (0, 0))
section
variable {w w' : World} {g : Nat} {F A N : Int}
theorem PO.lt (h : PO w g F A N) : g < w.heap.size := lt_heap h
theorem PO.next (h : PO w g F A N) (b : Below w.heap.size w w') : PO w' g F A N := (b.block g h.lt).trans h
theorem PO.c0 (h : PO w g F A N) : w.cell? ⟨g, 0, none⟩ = some (.int .i64 F) := by rw [cell_of_row w g 0 _ _ _ h]; rfl
theorem PO.c1 (h : PO w g F A N) : w.cell? ⟨g, 1, none⟩ = some (.int .i64 A) := by rw [cell_of_row w g 1 _ _ _ h]; rfl
theorem PO.c2 (h : PO w g F A N) : w.cell? ⟨g, 2, none⟩ = some (.int .i64 N) := by rw [cell_of_row w g 2 _ _ _ h]; rfl
end
/-- The bytes that Get looks at. -/
def recG (x : StD) (nm : ByteArray) (n : Nat) (A M : Int) : ByteArray := txt (ptL x (fileO nm n) A M)
theorem recG_size {x : StD} {nm : ByteArray} {n : Nat} {A M : Int} (hb : (x.now.at (lsD (fileO nm n))).length ≤ 16777216) : (recG x nm n A M).size ≤ 16777216 := by
  unfold recG ptL
  rw [txtJ_size]
  split
  · rw [List.length_take, List.length_drop]
    omega
  · exact Nat.zero_le _
section
set_option maxRecDepth 10000
set_option maxHeartbeats 4000000
variable {w : World} {sd gd : Nat} {nm : ByteArray} {most torn : Nat} {T : Nat → Prop} {x : StD}
theorem get_err (h : SO w sd gd nm most torn) (hd : DK w gd x T) (hm : nm.size ≤ 20) (hn : x.now.n < 1000000) (F A N : Int) (he : readyE x (lsD nm) F ≠ 0) : Calls Tryz.prog 43 #[.pointer (some ⟨sd, 0, none⟩), .agg #[.int .i64 F, .int .i64 A, .int .i64 N]] w fun e w' => e = .returned (.tuple #[.string ⟨#[]⟩, .int .i64 (readyE x (lsD nm) F)]) ∧ Below w.heap.size w w' := by
  have b0 := (Below.refl w.heap.size w).alloc (Nat.le_refl _) (.cells #[.int .i64 F, .int .i64 A, .int .i64 N] 105)
  have p0 : PO (w.alloc (.cells #[.int .i64 F, .int .i64 A, .int .i64 N] 105)) w.heap.size F A N := heap_alloc_last w _
  have k0 := p0.c0
  have HR := hide (readyO_any (h.next b0) (hd.below b0) hm hn F)
  have B0 := hide b0
  clear h hd hm hn p0 b0
  generalize readyE x (lsD nm) F = E at *
  go_enter Tryz.func43, Tryz.ntmps43
  go_wp2_with (go_at_call 120; refine HR.out.mono ?_; rintro e w1 ⟨rfl, b1⟩; have B1 := hide (below_next B0.out b1); clear b1)
  go_ret2
  exact ⟨rfl, B1.out⟩
theorem get_nil (F A N : Int) (w : World) : Calls Tryz.prog 43 #[.pointer none, .agg #[.int .i64 F, .int .i64 A, .int .i64 N]] w fun e w' => e = .returned (.tuple #[.string ⟨#[]⟩, .int .i64 181]) ∧ Below w.heap.size w w' := by
  have b0 := (Below.refl w.heap.size w).alloc (Nat.le_refl _) (.cells #[.int .i64 F, .int .i64 A, .int .i64 N] 105)
  have p0 : PO (w.alloc (.cells #[.int .i64 F, .int .i64 A, .int .i64 N] 105)) w.heap.size F A N := heap_alloc_last w _
  have k0 := p0.c0
  have HR := hide fun W => readyO_nil F W
  have B0 := hide b0
  clear p0 b0
  go_enter Tryz.func43, Tryz.ntmps43
  go_wp2_with (go_at_call 120; refine (HR.out _).mono ?_; rintro e w1 ⟨rfl, hw⟩; subst w1)
  go_ret2
  exact ⟨rfl, B0.out⟩
theorem get_any (h : SO w sd gd nm most torn) (hd : DK w gd x T) (hK : Kg w) (hb : BdD x.now) (hm : nm.size ≤ 20) (F A N : Int) (n : Nat) (hF : F = (n : Int)) (hn32 : n < 32) (he : readyE x (lsD nm) F = 0) (b : Bool) (hbk : (taK (recG x nm n A (IntKind.i64.wrap (12 + N))) && decide (((taB (recG x nm n A (IntKind.i64.wrap (12 + N)))).size : Int) = N)) = b) : Calls Tryz.prog 43 #[.pointer (some ⟨sd, 0, none⟩), .agg #[.int .i64 F, .int .i64 A, .int .i64 N]] w fun e w' => e = .returned (.tuple #[.string (if b then taB (recG x nm n A (IntKind.i64.wrap (12 + N))) else ⟨#[]⟩), .int .i64 (if b then 0 else 181)]) ∧ Below w.heap.size w w' := by
  subst hF
  have hn : x.now.n < 1000000 := by have := hb.n; omega
  have b0 := (Below.refl w.heap.size w).alloc (Nat.le_refl _) (.cells #[.int .i64 (n : Int), .int .i64 A, .int .i64 N] 105)
  have p0 : PO (w.alloc (.cells #[.int .i64 (n : Int), .int .i64 A, .int .i64 N] 105)) w.heap.size n A N := heap_alloc_last w _
  have k0 := p0.c0
  have HR := hide (readyO_any (h.next b0) (hd.below b0) hm hn n)
  rw [he] at HR
  have B0 := hide b0
  have P0 := hide p0
  have S0 := hide (h.next b0)
  have D0 := hide (hd.below b0)
  have K0 := hide (hK.next b0)
  have lR : (x.now.at (lsD (fileO nm n))).length ≤ 16777216 := hb.len _
  have zR := recG_size (A := A) (M := IntKind.i64.wrap (12 + N)) lR
  have zf : (fileO nm n).size ≤ maxLen := by
    have := lsO_len (fileO nm n)
    rw [fileO_ls] at this
    unfold fnO at this
    rw [List.length_append, List.length_cons, lsO_len] at this
    have := (dgO_ok n hn32).2
    unfold maxLen
    omega
  have HF := hide fun W (s : SO W sd gd nm most torn) => fileO_any s n hn32 hm
  have HP := hide fun W (d : DK W gd x T) => part_any gd x T (fileO nm n) A (IntKind.i64.wrap (12 + N)) W d zf lR
  have HT := hide fun W (k : Kg W) => takeO_any (recG x nm n A (IntKind.i64.wrap (12 + N))) (by unfold maxLen; omega) W k
  rw [show (⟨(ptL x (fileO nm n) A (IntKind.i64.wrap (12 + N))).toArray⟩ : ByteArray) = recG x nm n A (IntKind.i64.wrap (12 + N)) from rfl] at HP
  clear h hd hm hn p0 b0 hb zf lR zR hK he
  generalize ptE x (fileO nm n) A (IntKind.i64.wrap (12 + N)) = pe at *
  generalize recG x nm n A (IntKind.i64.wrap (12 + N)) = R at *
  generalize hMM : IntKind.i64.wrap (12 + N) = M at *
  generalize fileO nm n = ft at *
  generalize taB R = tb at *
  generalize taK R = tk at *
  go_enter Tryz.func43, Tryz.ntmps43
  go_upto_region 4 with (go_at_call 120; refine HR.out.mono ?_; rintro e w1 ⟨rfl, b1⟩; have B1 := hide (below_next B0.out b1); have S1 := hide (S0.out.next b1); have D1 := hide (D0.out.below b1); have K1 := hide (K0.out.next b1); have P1 := hide (P0.out.next b1); clear b1 S0 D0 K0 P0 HR B0 k0)
  have HC : Hid (∀ W, Below w1.heap.size w1 W → W.cell? ⟨sd, 0, none⟩ = some (.pointer (some ⟨gd, 0, none⟩)) ∧ W.cell? ⟨w.heap.size, 0, none⟩ = some (.int .i64 (n : Int)) ∧ W.cell? ⟨w.heap.size, 1, none⟩ = some (.int .i64 A) ∧ W.cell? ⟨w.heap.size, 2, none⟩ = some (.int .i64 N)) := fun W b => ⟨(S1.out.next b).c0, (P1.out.next b).c0, (P1.out.next b).c1, (P1.out.next b).c2⟩
  go_region_held3 (fun W => Below w1.heap.size w1 W ∧ W.cell? ⟨sd, 0, none⟩ = some (.pointer (some ⟨gd, 0, none⟩)) ∧ W.cell? ⟨w.heap.size, 0, none⟩ = some (.int .i64 (n : Int)) ∧ W.cell? ⟨w.heap.size, 1, none⟩ = some (.int .i64 A) ∧ W.cell? ⟨w.heap.size, 2, none⟩ = some (.int .i64 N)) (first | assumption | exact (fun hb => ⟨hb, HC.out _ hb⟩) ((Below.refl _ _).drew) | exact (fun hb => ⟨hb, HC.out _ hb⟩) (below_next (And.left (by assumption)) be)) (first | (go_at_call 117; refine (HF.out _ (S1.out.next (And.left (by assumption)))).mono ?_; rintro e w2 ⟨rfl, be⟩) | (go_at_call 121; refine (HP.out _ (D1.out.below (And.left (by assumption)))).mono ?_; rintro e w3 ⟨rfl, be⟩))
  have B3 : Hid (Below w1.heap.size w1 w3) := And.left (by assumption)
  rename_i hHeld
  clear be HC HF HP hHeld
  go_upto_region 6 with (go_at_call 122; refine (HT.out _ (K1.out.next B3.out)).mono ?_; rintro e w4 ⟨rfl, b4⟩; have B4 := hide (below_next B1.out (below_next B3.out b4)); have P4 := hide (P1.out.next (below_next B3.out b4)); clear b4)
  have k2 := P4.out.c2
  clear P4 HT B3 K1 S1 D1 P1
  cases tk with
  | false =>
    rw [Bool.false_and] at hbk
    subst hbk
    go_wp2
    go_ret2
    exact ⟨rfl, B4.out⟩
  | true =>
    rw [Bool.true_and] at hbk
    by_cases hz : (tb.size : Int) = N
    · rw [decide_eq_true hz] at hbk
      subst hbk
      go_wp2
      go_ret2
      exact ⟨by first | rfl | (simp; done) | (simp; rfl), B4.out⟩
    · rw [decide_eq_false hz] at hbk
      subst hbk
      go_wp2
      go_ret2
      exact ⟨rfl, B4.out⟩
theorem mend_none (h : SO w sd gd nm most torn) (hd : DK w gd x T) (hm : nm.size ≤ 20) (hn : x.now.n < 1000000) (hl : lastI x.now (lsD nm) = -1) : Calls Tryz.prog 105 #[.pointer (some ⟨sd, 0, none⟩)] w fun e w' => e = .returned (.int .i64 0) ∧ Below w.heap.size w w' := by
  have HL := hide (last_any h hd hm hn)
  rw [hl] at HL
  clear h hd hm hn hl
  go_enter Tryz.func105, Tryz.ntmps105
  go_wp2_with (go_at_call 133; refine HL.out.mono ?_; rintro e w1 ⟨rfl, b1⟩; have B1 := hide b1; clear b1)
  go_ret
  exact ⟨rfl, B1.out⟩
theorem openO_nil (nm : ByteArray) (m : Int) (w : World) : Calls Tryz.prog 33 #[.pointer none, .string nm, .int .i64 m] w fun e w' => e = .returned (.tuple #[.pointer none, .int .i64 1]) ∧ w' = w := by
  go_enter Tryz.func33, Tryz.ntmps33
  go_wp2
  go_ret2
  exact ⟨rfl, rfl⟩
theorem openO_name (gd : Nat) (nm : ByteArray) (w : World) (hm : nm.size ≤ maxLen) (hn : nameO (lsD nm) = false) (most : Nat) (h1 : 1024 ≤ most) (h2 : most ≤ 16777216) : Calls Tryz.prog 33 #[.pointer (some ⟨gd, 0, none⟩), .string nm, .int .i64 (most : Int)] w fun e w' => e = .returned (.tuple #[.pointer none, .int .i64 70]) ∧ Below w.heap.size w w' := by
  have HN := hide (isNameO_any nm hm w)
  rw [hn] at HN
  have i1 : ¬ (most : Int) < 1024 := by omega
  have i2 : ¬ (16777216 : Int) < most := by omega
  go_enter Tryz.func33, Tryz.ntmps33
  go_wp2_with (go_at_call 104; refine HN.out.mono ?_; rintro e w1 ⟨rfl, b1⟩; have B1 := hide b1; clear b1)
  go_ret2
  exact ⟨rfl, B1.out⟩
theorem nameO_size {m : ByteArray} (h : nameO (lsD m) = true) : m.size ≤ 20 := by
  unfold nameO at h
  rw [Bool.and_eq_true, decide_eq_true_iff, lsO_len] at h
  exact h.2
theorem openO_dead (hd : DK w gd x T) (nm : ByteArray) (hn : nameO (lsD nm) = true) (hx : x.dead = true) (most : Nat) (h1 : 1024 ≤ most) (h2 : most ≤ 16777216) : Calls Tryz.prog 33 #[.pointer (some ⟨gd, 0, none⟩), .string nm, .int .i64 (most : Int)] w fun e w' => e = .returned (.tuple #[.pointer none, .int .i64 7]) ∧ Below w.heap.size w w' := by
  have HN := hide (isNameO_any nm (by have := nameO_size hn; unfold maxLen; omega) w)
  rw [hn] at HN
  have i1 : ¬ (most : Int) < 1024 := by omega
  have i2 : ¬ (16777216 : Int) < most := by omega
  have HD : Hid (∀ W, Below w.heap.size w W → Calls Tryz.prog 38 #[.pointer (some ⟨gd, 0, none⟩)] W fun e w' => e = .returned (.bool true) ∧ w' = W) := fun W b => by
    have := dead_cell gd x.dead W (hd.below b).dead5
    rwa [hx] at this
  clear hd hx
  go_enter Tryz.func33, Tryz.ntmps33
  go_wp2_with (first | (go_at_call 104; refine HN.out.mono ?_; rintro e w1 ⟨rfl, b1⟩; have B1 := hide b1; clear b1) | (go_at_call 38; refine (HD.out _ B1.out).mono ?_; rintro e w2 ⟨rfl, hw⟩; subst w2))
  go_ret2
  exact ⟨rfl, B1.out⟩
theorem openO_new (hd : DK w gd x T) (nm : ByteArray) (hn : nameO (lsD nm) = true) (hx : x.dead = false) (hxn : x.now.n < 1000000) (hl : lastI x.now (lsD nm) = -1) (most : Nat) (h1 : 1024 ≤ most) (h2 : most ≤ 16777216) : Calls Tryz.prog 33 #[.pointer (some ⟨gd, 0, none⟩), .string nm, .int .i64 (most : Int)] w fun e w' => ∃ sd, e = .returned (.tuple #[.pointer (some ⟨sd, 0, none⟩), .int .i64 0]) ∧ SO w' sd gd nm most 0 ∧ w.heap.size ≤ sd ∧ Below w.heap.size w w' := by
  have HN := hide (isNameO_any nm (by have := nameO_size hn; unfold maxLen; omega) w)
  rw [hn] at HN
  have i1 : ¬ (most : Int) < 1024 := by omega
  have i2 : ¬ (16777216 : Int) < most := by omega
  have HD : Hid (∀ W, Below w.heap.size w W → Calls Tryz.prog 38 #[.pointer (some ⟨gd, 0, none⟩)] W fun e w' => e = .returned (.bool false) ∧ w' = W) := fun W b => by
    have := dead_cell gd x.dead W (hd.below b).dead5
    rwa [hx] at this
  have HM := hide fun W (b : Below w.heap.size w W) sd (s : SO W sd gd nm most 0) => mend_none s (hd.below b) (nameO_size hn) hxn hl
  clear hd hx
  go_enter Tryz.func33, Tryz.ntmps33
  go_wp2_with (first | (go_at_call 104; refine HN.out.mono ?_; rintro e w1 ⟨rfl, b1⟩; have B1 := hide b1; have B2 := hide (b1.alloc b1.size (.cells #[.pointer (some ⟨gd, 0, none⟩), .string nm, .int .i64 (most : Int), .int .i64 0] 236)); have S2 : Hid (SO (w1.alloc (.cells #[.pointer (some ⟨gd, 0, none⟩), .string nm, .int .i64 (most : Int), .int .i64 0] 236)) w1.heap.size gd nm most 0) := (heap_alloc_last w1 _); clear b1) | (go_at_call 38; refine (HD.out _ B1.out).mono ?_; rintro e w2 ⟨rfl, hw⟩; subst w2) | (go_at_call 105; refine (HM.out _ B2.out _ S2.out).mono ?_; rintro e w3 ⟨rfl, b3⟩; have B3 := hide (below_next B2.out b3); have S3 := hide (S2.out.next b3); clear b3))
  go_ret2
  exact ⟨_, rfl, S3.out, B1.out.size, B3.out⟩
theorem syncO_dead (hd : DK w gd x T) (hx : x.dead = true) : Calls Tryz.prog 118 #[.pointer (some ⟨gd, 0, none⟩)] w fun e w' => e = .returned (.int .i64 7) ∧ w' = w := by
  have HD := hide (dead_cell gd x.dead w hd.dead5)
  rw [hx] at HD
  clear hd hx
  go_enter Tryz.func118, Tryz.ntmps118
  go_wp2_with (go_at_call 38; refine HD.out.mono ?_; rintro e w1 ⟨rfl, hw⟩; subst w1)
  go_ret
  exact ⟨rfl, rfl⟩
theorem flushO_dead (h : SO w sd gd nm most torn) (hd : DK w gd x T) (hx : x.dead = true) : Calls Tryz.prog 40 #[.pointer (some ⟨sd, 0, none⟩)] w fun e w' => e = .returned (.int .i64 7) ∧ w' = w := by
  have c0 := h.c0
  have HS := hide (syncO_dead hd hx)
  clear h hd hx
  go_enter Tryz.func40, Tryz.ntmps40
  go_wp2_with (go_at_call 118; refine HS.out.mono ?_; rintro e w1 ⟨rfl, hw⟩; subst w1)
  go_ret
  exact ⟨rfl, rfl⟩
theorem flushO_nil (w : World) : Calls Tryz.prog 40 #[.pointer none] w fun e w' => e = .returned (.int .i64 7) ∧ w' = w := by
  go_enter Tryz.func40, Tryz.ntmps40
  go_wp2
  go_ret
  exact ⟨rfl, rfl⟩
theorem tornO_nil (w : World) : Calls Tryz.prog 50 #[.pointer none] w fun e w' => e = .returned (.int .i64 0) ∧ w' = w := by
  go_enter Tryz.func50, Tryz.ntmps50
  go_wp2
  go_ret
  exact ⟨rfl, rfl⟩
theorem scanO_nil (k : Int) (w : World) : Calls Tryz.prog 45 #[.pointer none, .int .i64 k] w fun e w' => e = .returned (.tuple #[.slice none 0 0, .int .i64 0, .int .i64 181]) ∧ w' = w := by
  have HR := hide (readyO_nil k w)
  go_enter Tryz.func45, Tryz.ntmps45
  go_wp2_with (go_at_call 120; refine HR.out.mono ?_; rintro e w1 ⟨rfl, hw⟩; subst w1)
  (try simp only [Exit.inBlock, Exit.then])
  refine bodyPost_ret (results_tmp3 rfl _ _ _) rfl ?_
  exact ⟨rfl, rfl⟩
theorem pruneO_nil (k : Int) (w : World) : Calls Tryz.prog 49 #[.pointer none, .int .i64 k] w fun e w' => e = .returned (.int .i64 181) ∧ w' = w := by
  have HH := hide (has_nil k w)
  go_enter Tryz.func49, Tryz.ntmps49
  go_wp2_with (go_at_call 132; refine HH.out.mono ?_; rintro e w1 ⟨rfl, hw⟩; subst w1)
  go_ret
  exact ⟨rfl, rfl⟩
/-- The sum of the sizes, where no file is. -/
theorem sizeO_none (h : SO w sd gd nm most torn) (hd : DK w gd x T) (hm : nm.size ≤ 20) (hn : x.now.n < 1000000) (hf : filesO x.now (lsD nm) = []) : Calls Tryz.prog 48 #[.pointer (some ⟨sd, 0, none⟩)] w fun e w' => e = .returned (.int .i64 0) ∧ Below w.heap.size w w' := by
  have HF := hide (files_any h hd hm hn)
  rw [hf] at HF
  clear h hd hm hn hf
  go_enter Tryz.func48, Tryz.ntmps48
  go_upto_region 2 with fail
  go_upto_region 3 with (go_at_call 44; refine HF.out.mono ?_; rintro e w1 ⟨v1, rfl, o1, _, b1⟩; (obtain ⟨ao, c, rfl⟩ := o1.form); have B1 := hide b1; clear b1 o1)
  go_loopw [3, 11] (fun s i wr => s = .int .i64 0 ∧ i = .int .i64 0 ∧ wr = w1) (fun _ _ _ => 0)
  case atStart => exact ⟨rfl, rfl, rfl⟩
  case round =>
    obtain ⟨rfl, rfl, rfl⟩ := hrel
    go_wp2
    go_ret
    exact ⟨rfl, B1.out⟩
theorem sizeO_nil (w : World) : Calls Tryz.prog 48 #[.pointer none] w fun e w' => e = .returned (.int .i64 0) ∧ w' = w := by
  have HF := hide (files_nil w)
  go_enter Tryz.func48, Tryz.ntmps48
  go_upto_region 3 with (go_at_call 44; refine HF.out.mono ?_; rintro e w1 ⟨rfl, hw⟩; subst w1)
  go_loopw [3, 11] (fun s i wr => s = .int .i64 0 ∧ i = .int .i64 0 ∧ wr = w) (fun _ _ _ => 0)
  case atStart => exact ⟨rfl, rfl, rfl⟩
  case round =>
    obtain ⟨rfl, rfl, rfl⟩ := hrel
    go_wp2
    go_ret
    exact ⟨rfl, rfl⟩
end
end Go.Proofs.YtppooipamibhoaaGreatDoor
namespace Go.Proofs.YtppooipamibhoaaGreatDoor
open Go.RowKit
open Go.Deep
open Go.Lib
set_option linter.unusedVariables false
set_option linter.unusedSimpArgs false
def pzO : Array Value := #[.int .i64 0, .int .i64 0, .int .i64 0]
theorem DK.frameO {w w' : World} {gd : Nat} {x : StD} {T : Nat → Prop} (h : DK w gd x T) (hs : w.heap.size ≤ w'.heap.size) (e : ∀ g, T g → w'.heap[g]? = w.heap[g]?) : DK w' gd x T := by
  obtain ⟨S1, S2, mn, ms, vo, vp, h⟩ := h
  exact ⟨S1, S2, mn, ms, vo, vp, h.frame hs e⟩
theorem Fr.setRowO {T : Nat → Prop} {w w' : World} (f : Fr T w w') {g : Nat} (hg : w.heap.size ≤ g) (cs : Array Value) : Fr T w (w'.setRow g cs) :=
  ⟨f.os, f.tape, f.output, by simpa using f.size, fun k hk hn => (setRow_other _ _ _ _ (by omega)).trans (f.block k hk hn)⟩
theorem po_one (a b c : Int) : (#[.int .i64 a, .int .i64 b, .int .i64 c] : Array Value).all (·.oneCell') = true := by
  first | rfl | kernel_rfl | (simp [Value.oneCell'])
theorem APo : Arr 105 3 pzO := ⟨.inr ⟨_, Tryz.underlying105⟩, by kernel_rfl, fun w => by kernel_rfl, fun w => by kernel_rfl, rfl⟩
theorem resO2 {t : TypeId} {n : Nat} {z : Array Value} (A : Arr t n z) {fn : Func} {p u : Tmp} (hf : fn.results = #[.cell p t, .tmp u]) (tmps : Array Value) (w : World) (g : Nat) (t' : TypeId) (c : Array Value) (hn : c.size = n)
    (hp : tmps.getD p undef = .pointer (some ⟨g, 0, none⟩)) (hg : w.heap[g]? = some (.cells c t' (0, 0))) (x : Value) (hx : tmps.getD u undef = x) : (results fn tmps).run Tryz.prog w = .ok (.tuple #[.agg c, x]) w := by
  subst hx
  have hp' : tmps[p]?.getD undef = .pointer (some ⟨g, 0, none⟩) := by simpa using hp
  rcases A.und with ⟨m, e, hd⟩ | ⟨fs, hd⟩ <;> simp [results, hf, hp', asAddr, run_loadVar_row w g t' t c (0, 0) _ hg hd rfl (by rw [A.info, hn])]
section
set_option maxRecDepth 10000
set_option maxHeartbeats 4000000
theorem putO_nil (s : ByteArray) (hm : s.size ≤ 140737488351232) (w : World) (hK : Kg w) : Calls Tryz.prog 39 #[.pointer none, .string s] w fun e w' => e = .returned (.tuple #[.agg pzO, .int .i64 180]) ∧ Below w.heap.size w w' := by
  have b0 := (Below.refl w.heap.size w).alloc (Nat.le_refl _) (.cells pzO 105)
  have r0 := heap_alloc_last w (.cells pzO 105)
  have l0 : w.heap.size < (w.alloc (.cells pzO 105)).heap.size := lt_heap r0
  have B0 := hide b0
  have R0 := hide r0
  have L0 := hide l0
  by_cases hl : 1 ≤ s.size ∧ s.size ≤ 8192
  · have HR := hide (recO_yes s hl.1 hl.2 (w.alloc (.cells pzO 105)) (hK.next b0))
    clear b0 r0 l0 hK hm hl
    generalize txt (recO s.data.toList) = rt at *
    go_enter Tryz.func39, Tryz.ntmps39
    go_wp2_with (first | (go_at_call 46; refine HR.out.mono ?_; rintro e w1 ⟨rfl, b1⟩; have R1 := hide ((b1.block _ L0.out).trans R0.out); have B1 := hide (below_next B0.out b1); clear b1) | ((with_reducible refine at_list ?_); first | refine wpList_allocA APo rfl rfl ?_ | refine wpList_buildA APo rfl rfl ?_ | refine wpList_storeA APo rfl _ _ rfl w.heap.size pzO rfl (po_one 0 0 0) rfl rfl pzO rfl 105 R1.out ?_))
    (try simp only [Exit.inBlock, Exit.then])
    refine bodyPost_ret (resO2 APo rfl _ _ w.heap.size 105 pzO rfl rfl (setRow_heap _ _ _ _ _ _ R1.out) _ rfl) rfl ?_
    exact ⟨rfl, below_setRow B1.out (Nat.le_refl _) _⟩
  · have HR := hide (recO_no s (by omega) (by unfold maxLen; omega) (w.alloc (.cells pzO 105)))
    clear b0 r0 l0 hK hm hl
    go_enter Tryz.func39, Tryz.ntmps39
    go_wp2_with (first | (go_at_call 46; refine HR.out.mono ?_; rintro e w1 ⟨rfl, hw⟩; subst w1) | ((with_reducible refine at_list ?_); first | refine wpList_allocA APo rfl rfl ?_ | refine wpList_buildA APo rfl rfl ?_ | refine wpList_storeA APo rfl _ _ rfl w.heap.size pzO rfl (po_one 0 0 0) rfl rfl pzO rfl 105 R0.out ?_))
    (try simp only [Exit.inBlock, Exit.then])
    refine bodyPost_ret (resO2 APo rfl _ _ w.heap.size 105 pzO rfl rfl (setRow_heap _ _ _ _ _ _ R0.out) _ rfl) rfl ?_
    exact ⟨rfl, below_setRow B0.out (Nat.le_refl _) _⟩
variable {w : World} {sd gd : Nat} {nm : ByteArray} {most torn : Nat} {T : Nat → Prop} {x : StD}
theorem room_none (h : SO w sd gd nm most torn) (hd : DK w gd x T) (hm : nm.size ≤ 20) (hn : x.now.n < 1000000) (hl : lastI x.now (lsD nm) = -1) (k : Int) : Calls Tryz.prog 116 #[.pointer (some ⟨sd, 0, none⟩), .int .i64 k] w fun e w' => e = .returned (.tuple #[.int .i64 0, .int .i64 0, .int .i64 0]) ∧ Below w.heap.size w w' := by
  have HL := hide (last_any h hd hm hn)
  rw [hl] at HL
  clear h hd hm hn hl
  go_enter Tryz.func116, Tryz.ntmps116
  go_wp2_with (go_at_call 133; refine HL.out.mono ?_; rintro e w1 ⟨rfl, b1⟩; have B1 := hide b1; clear b1)
  (try simp only [Exit.inBlock, Exit.then])
  refine bodyPost_ret (results_tmp3 rfl _ _ _) rfl ?_
  exact ⟨rfl, B1.out⟩
theorem files0 (m : List UInt8) : filesO x0.now m = [] := by
  unfold filesO
  rw [List.filter_eq_nil_iff]
  intro n _
  simp [hasO, x0, FS.none]
theorem last0 (m : List UInt8) : lastI x0.now m = -1 := lastI_nil (files0 m)
theorem n0 : x0.now.n < 1000000 := by decide
/-- A disk with one record. -/
def x1O (nm s : ByteArray) : StD := mkC x0 (wrC (fileO nm 0) 0 (txt (recO s.data.toList)))
theorem putO_fresh (h : SO w sd gd nm most torn) (hd : DK w gd x0 T) (hT : ¬ T sd) (hK : Kg w) (hn : nameO (lsD nm) = true) (s : ByteArray) (h1 : 1 ≤ s.size) (h2 : s.size ≤ 8192) : Calls Tryz.prog 39 #[.pointer (some ⟨sd, 0, none⟩), .string s] w fun e w' => ∃ T', e = .returned (.tuple #[.agg #[.int .i64 0, .int .i64 0, .int .i64 (s.size : Int)], .int .i64 0]) ∧ DK w' gd (x1O nm s) T' ∧ (∀ g, T' g → T g ∨ w.heap.size ≤ g) ∧ Fr T w w' := by
  have hm := nameO_size hn
  have b0 := (Below.refl w.heap.size w).alloc (Nat.le_refl _) (.cells pzO 105)
  have r0 := heap_alloc_last w (.cells pzO 105)
  have l0 : w.heap.size < (w.alloc (.cells pzO 105)).heap.size := lt_heap r0
  have B0 := hide b0
  have R0 := hide r0
  have L0 := hide l0
  have S0 := hide (h.next b0)
  have D0 := hide (hd.below b0)
  have LT := hide hd.lt
  have HR := hide (recO_yes s h1 h2 (w.alloc (.cells pzO 105)) (hK.next b0))
  have hsl : s.data.toList.length = s.size := by simp
  have z1 : (txt (recO s.data.toList)).size = 12 + s.size := by rw [txtJ_size, recO_len, hsl]
  have HM := hide fun W (s : SO W sd gd nm most torn) (d : DK W gd x0 T) k => room_none s d hm n0 (last0 _) k
  have HF := hide fun W (s : SO W sd gd nm most torn) => fileO_any s 0 (by omega) hm
  have hfi : isName (lsD (fileO nm 0)) = true := by rw [fileO_ls]; exact nameO_file hn (by omega)
  have HA := hide fun W (d : DK W gd x0 T) => append_ok gd x0 T (fileO nm 0) (txt (recO s.data.toList)) W d Vd.x0 rfl (by unfold rdy; simp [hfi, x0]) (by rw [show x0.now.at (lsD (fileO nm 0)) = [] from rfl, z1]; show 0 + _ ≤ _; omega) (.inr (by decide)) (by decide) (by decide)
  rw [show (mkC x0 (wrC (fileO nm 0) (x0.now.at (lsD (fileO nm 0))).length (txt (recO s.data.toList)))) = x1O nm s from rfl] at HA
  clear h hd hm hn b0 r0 l0 hK hfi hsl
  generalize x1O nm s = x1 at *
  generalize fileO nm 0 = ft at *
  generalize txt (recO s.data.toList) = rt at *
  go_enter Tryz.func39, Tryz.ntmps39
  go_upto_region 7 with (first | (go_at_call 46; refine HR.out.mono ?_; rintro e w1 ⟨rfl, b1⟩; have R1 := hide ((b1.block _ L0.out).trans R0.out); have L1 := hide (Nat.lt_of_lt_of_le L0.out b1.size); have B1 := hide (below_next B0.out b1); have S1 := hide (S0.out.next b1); have D1 := hide (D0.out.below b1); clear b1) | (go_at_call 116; refine (HM.out _ S1.out D1.out _).mono ?_; rintro e w2 ⟨rfl, b2⟩; have R2 := hide ((b2.block _ L1.out).trans R1.out); have L2 := hide (Nat.lt_of_lt_of_le L1.out b2.size); have B2 := hide (below_next B1.out b2); have S2 := hide (S1.out.next b2); have D2 := hide (D1.out.below b2); clear b2) | ((with_reducible refine at_list ?_); first | refine wpList_allocA APo rfl rfl ?_))
  clear HR HM R0 R1 L0 L1 B0 B1 S0 S1 D0 D1
  have HC : Hid (∀ W, Fr T w2 W → W.cell? ⟨sd, 0, none⟩ = some (.pointer (some ⟨gd, 0, none⟩))) := fun W f => (S2.out.fr f hT).c0
  go_region_held3 (fun W => Fr T w2 W ∧ W.cell? ⟨sd, 0, none⟩ = some (.pointer (some ⟨gd, 0, none⟩))) (first | assumption | exact (fun f => ⟨f, HC.out _ f⟩) (Fr.of_below (Below.refl _ _).drew) | exact (fun f => ⟨f, HC.out _ f⟩) be) (first | (go_at_call 117; refine (HF.out _ (S2.out.next (Below.refl _ _).drew)).mono ?_; rintro e w3 ⟨rfl, b3⟩; have be := Fr.of_below (S := T) (below_next (Below.refl _ _).drew b3); have D3 := hide (D2.out.below (below_next (Below.refl _ _).drew b3)); have E3 := hide be; clear b3) | (go_at_call 111; refine (HA.out _ D3.out).mono ?_; rintro e w4 ⟨rfl, d4, f4⟩; have be := E3.out.trans' f4; have D4 := hide d4; have Z4 := hide f4.size; clear d4 f4))
  have F4 : Hid (Fr T w2 w4) := And.left (by assumption)
  have hne : ¬ T w.heap.size := fun e => by have := LT.out _ e; omega
  have R4 : Hid (w4.heap[w.heap.size]? = some (.cells pzO 105 (0, 0))) := (F4.out.block _ L2.out hne).trans R2.out
  rename_i hHeld
  clear hHeld be HC HA HF S2 D2 D3
  go_wp2_with ((with_reducible refine at_list ?_); first | refine wpList_storeA APo rfl _ _ rfl w.heap.size #[.int .i64 0, .int .i64 0, .int .i64 (s.size : Int)] rfl (po_one 0 0 _) rfl rfl pzO rfl 105 R4.out ?_)
  (try simp only [Exit.inBlock, Exit.then])
  refine bodyPost_ret (resO2 APo rfl _ _ w.heap.size 105 #[.int .i64 0, .int .i64 0, .int .i64 (s.size : Int)] rfl rfl (setRow_heap _ _ _ _ _ _ R4.out) _ rfl) rfl ?_
  have l2 := L2.out
  have l3 := E3.out.size
  have f := (Fr.of_below (S := T) B2.out).trans' F4.out
  refine ⟨grow T w3 w4, rfl, D4.out.frameO (by simp) fun g hg => setRow_other _ _ _ _ fun e => ?_, fun g hg => ?_, f.setRowO (Nat.le_refl _) _⟩
  · subst e
    rcases hg with hg | ⟨hg, _⟩
    · exact hne hg
    · omega
  · rcases hg with hg | ⟨hg, _⟩
    · exact .inl hg
    · exact .inr (by omega)
end
end Go.Proofs.YtppooipamibhoaaGreatDoor
namespace Go.Proofs.YtppooipamibhoaaGreatDoor
open Go.RowKit
open Go.Deep
open Go.Lib
set_option linter.unusedVariables false
set_option linter.unusedSimpArgs false
theorem x1_now (nm s : ByteArray) : (x1O nm s).now = x0.now.put (lsD (fileO nm 0)) (wr8 (x0.now.at (lsD (fileO nm 0))) 0 (recO s.data.toList)) := by
  unfold x1O mkC wrC doC
  simp [txtJ_list]
theorem x1_at (nm s : ByteArray) : (x1O nm s).now.at (lsD (fileO nm 0)) = recO s.data.toList := by
  rw [x1_now, show x0.now.at (lsD (fileO nm 0)) = [] from rfl]
  unfold FS.at
  rw [FS.put_get, if_pos rfl]
  simp [wr8]
theorem x1_get (nm s : ByteArray) : ((x1O nm s).now.get (lsD (fileO nm 0))).isSome = true := by
  rw [x1_now, FS.put_get, if_pos rfl]
  rfl
theorem x1_hasI (nm s : ByteArray) : hasI (filesO (x1O nm s).now (lsD nm)) 0 = true := by
  unfold hasI
  rw [List.any_eq_true]
  refine ⟨0, filesO_mem.2 ⟨by omega, ?_⟩, rfl⟩
  unfold hasO
  rw [← fileO_ls]
  exact x1_get nm s
theorem x1_vd {nm s : ByteArray} (hn : nameO (lsD nm) = true) (h2 : s.size ≤ 8192) : Vd (x1O nm s) := by
  have hfi : isName (lsD (fileO nm 0)) = true := by rw [fileO_ls]; exact nameO_file hn (by omega)
  have hsl : s.data.toList.length = s.size := by simp
  have z1 : (txt (recO s.data.toList)).size = 12 + s.size := by rw [txtJ_size, recO_len, hsl]
  exact Vd.x0.mkC (wr_ok Vd.x0.bd hfi (Nat.zero_le _) (by rw [z1]; omega) (.inr (by decide))) (by decide) (by decide)
theorem x1_fnd {nm s : ByteArray} (hn : nameO (lsD nm) = true) : fnd (x1O nm s) (fileO nm 0) = 0 := by
  have hfi : isName (lsD (fileO nm 0)) = true := by rw [fileO_ls]; exact nameO_file hn (by omega)
  unfold fnd
  rw [x1_get, show rdy (x1O nm s).dead [fileO nm 0] = 0 by unfold rdy; rw [show (x1O nm s).dead = false from rfl]; simp [hfi]]
  rfl
theorem x1_rec {nm s : ByteArray} (hn : nameO (lsD nm) = true) : recG (x1O nm s) nm 0 0 (12 + (s.size : Int)) = txt (recO s.data.toList) := by
  have hsl : s.data.toList.length = s.size := by simp
  have hl : (recO s.data.toList).length = 12 + s.size := by rw [recO_len, hsl]
  have e : ptE (x1O nm s) (fileO nm 0) 0 (12 + (s.size : Int)) = 0 := by
    unfold ptE
    rw [x1_fnd hn, if_pos rfl, x1_at, if_neg (by rw [hl]; omega)]
  unfold recG ptL
  rw [e, if_pos rfl, x1_at, List.take_of_length_le (by rw [List.length_drop, hl]; omega)]
  rfl
theorem ta_rec (b : List UInt8) (h1 : 1 ≤ b.length) (h2 : b.length ≤ 8192) : taK (txt (recO b)) = true ∧ taB (txt (recO b)) = txt b := by
  have h := rdO_rec b [] h1 h2
  rw [List.append_nil] at h
  obtain ⟨e1, e2⟩ := ta_spec (txt (recO b))
  rw [txtJ_list] at e1 e2
  rw [h] at e1
  exact ⟨e1, e2 _ h⟩
def nmbO : ByteArray := ⟨#[98, 108, 107]⟩
def abcO : ByteArray := ⟨#[97, 98, 99]⟩
theorem okbO : nameO (lsD nmbO) = true := by decide +kernel
section
set_option maxRecDepth 10000
set_option maxHeartbeats 4000000
theorem awakeO_any (w : World) (hK : Kg w) : Calls Tryz.prog 34 #[] w fun e w' => e = .returned (.bool true) ∧ Below w.heap.size w w' := by
  have HN := hide (newD_any w)
  have HO : Hid (∀ W, DK W w.heap.size x0 (fun g => g = w.heap.size) → Calls Tryz.prog 33 #[.pointer (some ⟨w.heap.size, 0, none⟩), .string ⟨#[98, 108, 107]⟩, .int .i64 1024] W fun e w' => ∃ sd, e = .returned (.tuple #[.pointer (some ⟨sd, 0, none⟩), .int .i64 0]) ∧ SO w' sd w.heap.size nmbO 1024 0 ∧ W.heap.size ≤ sd ∧ Below W.heap.size W w') := fun W d => openO_new d nmbO okbO rfl n0 (last0 _) 1024 (by decide) (by decide)
  have HP : Hid (∀ W sd, SO W sd w.heap.size nmbO 1024 0 → DK W w.heap.size x0 (fun g => g = w.heap.size) → ¬ sd = w.heap.size → Kg W → Calls Tryz.prog 39 #[.pointer (some ⟨sd, 0, none⟩), .string ⟨#[97, 98, 99]⟩] W fun e w' => ∃ T', e = .returned (.tuple #[.agg #[.int .i64 0, .int .i64 0, .int .i64 3], .int .i64 0]) ∧ DK w' w.heap.size (x1O nmbO abcO) T' ∧ (∀ g, T' g → g = w.heap.size ∨ W.heap.size ≤ g) ∧ Fr (fun g => g = w.heap.size) W w') := fun W sd s d ne k => putO_fresh s d ne k okbO abcO (by decide) (by decide)
  have HG : Hid (∀ W sd T, SO W sd w.heap.size nmbO 1024 0 → DK W w.heap.size (x1O nmbO abcO) T → Kg W → Calls Tryz.prog 43 #[.pointer (some ⟨sd, 0, none⟩), .agg #[.int .i64 0, .int .i64 0, .int .i64 3]] W fun e w' => e = .returned (.tuple #[.string ⟨#[97, 98, 99]⟩, .int .i64 0]) ∧ Below W.heap.size W w') := fun W sd T s d k => by
    have e0 : recG (x1O nmbO abcO) nmbO 0 0 (IntKind.i64.wrap (12 + 3)) = txt (recO abcO.data.toList) := x1_rec (s := abcO) okbO
    obtain ⟨t1, t2⟩ := ta_rec abcO.data.toList (by decide) (by decide)
    have := get_any s d k (x1_vd okbO (by decide)).bd (by decide) 0 0 3 0 rfl (by decide) (by unfold readyE; rw [x1_hasI]; rfl) true (by rw [e0, t1, t2]; rfl)
    rw [e0, t2] at this
    exact this
  have KW := hide hK
  clear hK
  go_enter Tryz.func34, Tryz.ntmps34
  go_upto_region 6 with (first | (go_at_call 32; refine HN.out.mono ?_; rintro e w1 ⟨rfl, d1, b1⟩; have D1 := hide d1; have B1 := hide b1; clear d1 b1) | (go_at_call 33; refine (HO.out _ D1.out).mono ?_; rintro e w2 ⟨sd, rfl, s2, l2, b2⟩; have S2 := hide s2; have D2 := hide (D1.out.below b2); have B2 := hide (below_next B1.out b2); have L2 : Hid (¬ sd = w.heap.size) := (fun e => by have := D1.out.lt w.heap.size rfl; omega); clear s2 l2 b2) | (go_at_call 39; refine (HP.out _ _ S2.out D2.out L2.out (KW.out.next B2.out)).mono ?_; rintro e w3 ⟨T3, rfl, d3, far, f3⟩; have B3 := hide (B2.out.trans (f3.below B2.out.size (fun g hg => Nat.le_of_eq hg.symm))); have ba := (Below.refl w3.heap.size w3).alloc (Nat.le_refl _) (.cells #[.int .i64 0, .int .i64 0, .int .i64 3] 105); have S4 := hide ((S2.out.fr f3 L2.out).next ba); have D4 := hide (d3.below ba); have R4 := hide (heap_alloc_last w3 (.cells #[.int .i64 0, .int .i64 0, .int .i64 3] 105)); have B4 := hide (below_next B3.out ba); clear ba d3 far f3) | (go_at_call 43; refine (HG.out _ _ _ S4.out D4.out (KW.out.next B4.out)).mono ?_; rintro e w5 ⟨rfl, b5⟩; have R5 := hide ((b5.block _ (lt_heap R4.out)).trans R4.out); have B5 := hide (below_next B4.out b5); clear b5) | ((with_reducible refine at_list ?_); first | refine wpList_allocA APo rfl rfl ?_ | refine wpList_store_newA APo rfl _ _ rfl _ rfl #[.int .i64 0, .int .i64 0, .int .i64 3] rfl (po_one 0 0 3) rfl rfl ?_ | refine wpList_loadA APo rfl _ rfl w3.heap.size rfl #[.int .i64 0, .int .i64 0, .int .i64 3] rfl 105 R4.out ?_))
  have r0 : w5.cell? ⟨w3.heap.size, 0, none⟩ = some (.int .i64 0) := by rw [cell_of_row w5 _ 0 _ _ _ R5.out]; rfl
  have r1 : w5.cell? ⟨w3.heap.size, 1, none⟩ = some (.int .i64 0) := by rw [cell_of_row w5 _ 1 _ _ _ R5.out]; rfl
  have r2 : w5.cell? ⟨w3.heap.size, 2, none⟩ = some (.int .i64 3) := by rw [cell_of_row w5 _ 2 _ _ _ R5.out]; rfl
  generalize w3.heap.size = g at *
  clear HN HO HP HG R4 D4 S4 B4 B3 D2 S2 D1
  go_wp2
  go_ret
  exact ⟨rfl, B5.out⟩
end
end Go.Proofs.YtppooipamibhoaaGreatDoor
