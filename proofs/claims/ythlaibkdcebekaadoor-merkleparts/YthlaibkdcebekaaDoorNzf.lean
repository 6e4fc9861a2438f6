/- MerkleParts' walk. -/
import Derived.Test.YthlaibkdcebekaaDoorNze
import Derived.Test.YthlaibkdcebekaaDoorNq
import Derived.Test.YthlaibkdcebekaaDoorNk
import Derived.Test.YthlaibkdcebekaaDoorNl
import Derived.Test.YthlaibkdcebekaaDoorNx1
import Derived.BigQuiet
namespace Go.Proofs.YthlaibkdcebekaaDoor
open Go.RowKit
open Go.Deep
def z3q : Array Value := #[.int .i64 0, .slice none 0 0, .slice none 0 0]
theorem A3q : Arr 25 3 z3q := ⟨.inr ⟨_, Tryd.underlying25⟩, by kernel_rfl, fun w => by kernel_rfl, fun w => by kernel_rfl, rfl⟩
def pt3 (c : Int) (vb vi : Value) : Array Value := #[.int .i64 c, vb, vi]
theorem pt3_one (c : Int) (ab ai : Option Addr) (lb cb li ci : Nat) : (pt3 c (.slice ab lb cb) (.slice ai li ci)).all (·.oneCell') = true := by
  have e1 : ∀ k x, (Value.int k x).oneCell' = true := fun _ _ => rfl
  have e2 : ∀ a n c, (Value.slice a n c).oneCell' = true := fun _ _ _ => rfl
  simp [pt3, e1, e2]
theorem pt3_cells {W : World} {g : Nat} {t : TypeId} {c : Int} {vb vi : Value} (h : W.heap[g]? = some (.cells (pt3 c vb vi) t (0, 0))) : W.cell? ⟨g, 0, none⟩ = some (.int .i64 c) ∧ W.cell? ⟨g, 1, none⟩ = some vb ∧ W.cell? ⟨g, 2, none⟩ = some vi :=
  ⟨by rw [cell_of_row W g 0 _ _ _ h]; rfl, by rw [cell_of_row W g 1 _ _ _ h]; rfl, by rw [cell_of_row W g 2 _ _ _ h]; rfl⟩
theorem rdT_len {c : Int} {bs : List Bool} {is : List (List UInt8)} {r : Rd} (h : rdT c bs is = some r) : r.places.length ≤ 65536 ∧ r.meant.length ≤ 65536 := by
  unfold rdT at h
  split at h
  · rename_i hc
    split at h
    · cases h
    · rename_i r' hr
      split at h
      · injection h with h
        subst h
        have h1 := rd_len _ _ _ _ _ _ hr
        have h2 := dp_16 (n := c.toNat) (by omega)
        have h3 : 2 ^ dp c.toNat ≤ 2 ^ 16 := Nat.pow_le_pow_right (by decide) h2
        have h4 : (2 : Nat) ^ 16 = 65536 := by decide
        omega
      · cases h
  · cases h
/-- What Part left. -/
structure Px (B W : World) (ms : List Bool) (N : List (List UInt8)) (g7 : Nat) (n e : Int) (xb xi : Value) : Prop where
  bel : Below B.heap.size B W
  row : W.heap[g7]? = some (.cells (pt3 n xb xi) 25 (0, 0))
  no : (N.length = 0 ∨ ms.length ≠ N.length) → n = 0 ∧ e = 1 ∧ xb = .slice none 0 0 ∧ xi = .slice none 0 0
  yes : ¬ (N.length = 0 ∨ ms.length ≠ N.length) → n = N.length ∧ e = 0 ∧ OB W xb (tl ms N (dp N.length) 0).1 ∧ OH 39 W xi (tl ms N (dp N.length) 0).2
theorem Px.next {B W W' : World} {ms : List Bool} {N : List (List UInt8)} {g7 : Nat} {n e : Int} {xb xi : Value} (h : Px B W ms N g7 n e xb xi) (b : Below W.heap.size W W') : Px B W' ms N g7 n e xb xi :=
  ⟨below_next h.bel b, (b.block _ (lt_heap h.row)).trans h.row, h.no, fun hy => by
    obtain ⟨h1, h2, h3, h4⟩ := h.yes hy
    exact ⟨h1, h2, h3.below b, h4.below b⟩⟩
section
set_option maxRecDepth 10000
set_option maxHeartbeats 4000000
set_option linter.unusedSimpArgs false
theorem merkleParts_walk (v vm vb vi : Value) (c : Int) (L is : List (List UInt8)) (ms bs : List Bool) (w : World) (hL : LH w v L) (hM : LB w vm ms) (hB : LB w vb bs) (hI : LH w vi is) (hms : ms.length < 4611686018427387904) (hbs : bs.length < 4611686018427387904) (his : is.length < 4398046511104) (hK : Kg w) :
    Calls Tryd.prog 3 #[v, vm, .agg (pt3 c vb vi)] w fun e w' => e = .returned (.bool true) ∧ Below w.heap.size w w' := by
  have b1 : Below w.heap.size w (w.alloc (.cells (pt3 c vb vi) 25)) := (Below.refl _ _).alloc (Nat.le_refl _) _
  have B1 := hide b1
  have P1 := hide (heap_alloc_last w (.cells (pt3 c vb vi) 25))
  have L1 := hide (hL.below b1)
  have M1 := hide (hM.below b1)
  have V1 := hide (hB.below b1)
  have I1 := hide (hI.below b1)
  have KW : Hid (∀ W, Below w.heap.size w W → Kg W) := fun W h => hK.next h
  obtain ⟨ab, cb, rfl, hcb⟩ := hB.form
  obtain ⟨ai, ci, rfl⟩ := hI.form
  obtain ⟨am, cm, rfl, hcm⟩ := hM.form
  have HMS := hide (And.intro hms (And.intro hbs his))
  clear hL hM hB hI hK b1
  go_enter Tryd.func3, Tryd.ntmps3
  go_upto_region 1 with (refine wpList_boxA rfl _ rfl (pt3 c (.slice ab bs.length cb) (.slice ai is.length ci)) rfl ?_)
  generalize w.alloc (.cells (pt3 c (.slice ab bs.length cb) (.slice ai is.length ci)) 25) = W1 at *
  go_upto_region 2 with (go_at_call 5; refine (few_any _ _ _ L1.out).mono ?_; rintro e w2 ⟨v2, rfl, hw2, l2⟩; subst w2; have L2 := hide l2; clear l2)
  have hM300 : (L.take 300).length ≤ 300 := by rw [List.length_take]; omega
  generalize L.take 300 = N at *
  clear L1
  obtain ⟨a2, c2, rfl⟩ := L2.out.form
  go_cut [7, 8, 20] from 21 to 25 (fun s7 s8 s20 wx => ∃ g7 n e xb xi, s7 = .pointer (some ⟨g7, 0, none⟩) ∧ s8 = .int .i64 e ∧ Hid (Px W1 wx ms N g7 n e xb xi))
  case first =>
    by_cases hno : N.length = 0 ∨ ms.length ≠ N.length
    · have HP := hide (part_no _ _ N ms _ L2.out M1.out hno)
      go_wp2_with (first | (go_at_call 6; refine HP.out.mono ?_; rintro e w3 ⟨rfl, b3⟩) | refine wpList_allocA A3q rfl rfl ?_ | refine wpList_store_newA A3q rfl _ _ rfl _ rfl (pt3 0 (.slice none 0 0) (.slice none 0 0)) rfl (pt3_one _ _ _ _ _ _ _) rfl rfl ?_)
      go_meet
      exact ⟨_, _, _, _, _, rfl, rfl, b3.alloc b3.size _, heap_alloc_last _ _, fun _ => ⟨rfl, rfl, rfl, rfl⟩, fun h => absurd hno h⟩
    · have HP := hide (part_yes _ _ N ms _ L2.out M1.out (by omega) (by omega) hM300 (KW.out _ B1.out))
      go_wp2_with (first | (go_at_call 6; refine HP.out.mono ?_; rintro e w3 ⟨xb, xi, rfl, ob, oi, b3⟩; obtain ⟨axb, cxb, rfl⟩ := ob.form; obtain ⟨axi, cxi, rfl⟩ := oi.form; have OB3 := hide ob; have OI3 := hide oi; clear ob oi; generalize (tl ms N (dp N.length) 0).1.length = lxb at *; generalize (tl ms N (dp N.length) 0).2.length = lxi at *) | refine wpList_allocA A3q rfl rfl ?_ | refine wpList_store_newA A3q rfl _ _ rfl _ rfl (pt3 N.length (.slice axb lxb cxb) (.slice axi lxi cxi)) rfl (pt3_one _ _ _ _ _ _ _) rfl rfl ?_)
      go_meet
      have b4 : Below w3.heap.size w3 (w3.alloc (.cells (pt3 N.length (.slice axb lxb cxb) (.slice axi lxi cxi)) 25)) := (Below.refl _ _).alloc (Nat.le_refl _) _
      exact ⟨_, _, _, _, _, rfl, rfl, below_next b3 b4, heap_alloc_last _ _, fun h => absurd h hno, fun _ => ⟨rfl, rfl, OB3.out.below b4, OI3.out.below b4⟩⟩
  obtain ⟨g7, n, e, xb, xi, rfl, rfl, PX⟩ := hcut
  have HA := hide (awake6_any wc (KW.out _ (below_next B1.out PX.out.bel)))
  go_upto_region 5 with (go_at_call 7; refine HA.out.mono ?_; rintro e w4 ⟨rfl, b4⟩; have P4 := hide (PX.out.next b4); clear b4)
  clear PX HA
  have L4 := hide (L2.out.below P4.out.bel)
  have M4 := hide (M1.out.below P4.out.bel)
  by_cases hno : N.length = 0 ∨ ms.length ≠ N.length
  case' pos =>
    obtain ⟨rfl, rfl, rfl, rfl⟩ := P4.out.no hno
    obtain ⟨x0, x1, x2⟩ := pt3_cells P4.out.row
    have hcs : ((N.length : Int) == 0) = true ∨ (((N.length : Int) == 0) = false ∧ ((ms.length : Int) != (N.length : Int)) = true) := by
      by_cases h0 : N.length = 0
      · exact .inl (by simp [h0])
      · have h1 : ms.length ≠ N.length := by
          rcases hno with h | h
          · exact absurd h h0
          · exact h
        exact .inr ⟨beq_eq_false_iff_ne.2 (by omega), bne_iff_ne.2 (by omega)⟩
    go_cut [37] from 28 to 36 (fun s37 wx => s37 = .bool true ∧ wx = w4)
    case first =>
      rcases hcs with h5 | ⟨h5, h6⟩
      all_goals
        go_wp2
        go_meet
        exact ⟨rfl, rfl⟩
    obtain ⟨rfl, rfl⟩ := hcut
    go_upto_region 11 with fail
    have B9 := hide P4.out.bel
    clear x0 x1 x2 hcs P4 L4 M4 L2 M1
    generalize wc = W9 at *
  case' neg =>
    obtain ⟨hn, he, ob, oi⟩ := P4.out.yes hno
    subst he
    subst hn
    obtain ⟨axb, cxb, rfl⟩ := ob.form
    obtain ⟨axi, cxi, rfl⟩ := oi.form
    have OB4 := hide ob
    have OI4 := hide oi
    clear ob oi
    have h5 : ((N.length : Int) == 0) = false := beq_eq_false_iff_ne.2 (by omega)
    have h6 : ((ms.length : Int) != (N.length : Int)) = false := by rw [show (ms.length : Int) = N.length by omega]; simp
    have HG := hide (given_any _ N w4 L4.out (by omega))
    have HRP := hide fun v W (h : LH W v N) (hm : LB W (.slice am ms.length cm) ms) => rPart_yes v _ N ms W h hm (by omega) (by omega) hM300
    have ht := tl_len ms N (dp N.length) 0
    have HTL : Hid ((tl ms N (dp N.length) 0).1.length < 4398046511104 ∧ (tl ms N (dp N.length) 0).2.length < 4398046511104) := by
      have h1 := dp_16 (n := N.length) (by omega)
      have h2 : 2 ^ (dp N.length + 1) ≤ 2 ^ 17 := Nat.pow_le_pow_right (by decide) (by omega)
      have h3 : (2 : Nat) ^ 17 = 131072 := by decide
      exact ⟨by omega, by omega⟩
    clear ht
    have HBT := hide fun v1 v2 W h1 h2 => bits_any v1 v2 (tl ms N (dp N.length) 0).1 W h1 h2 HTL.out.1
    have HSM := hide fun v1 v2 W h1 h2 => same_any v1 v2 (tl ms N (dp N.length) 0).2 W h1 h2 HTL.out.2
    generalize tl ms N (dp N.length) 0 = T at *
    obtain ⟨tb, ti⟩ := T
    simp only at OB4 OI4 HRP HBT HSM HTL
    have hlb : tb.length < 4398046511104 := HTL.out.1
    have hli : ti.length < 4398046511104 := HTL.out.2
    go_upto_region 9 with (first | (go_at_call 9; refine HG.out.mono ?_; rintro e w5 ⟨v5, rfl, og⟩; have G5 := hide og.own; have Q5 := hide og.bel; clear og) | (go_at_call 8; refine (HRP.out _ _ G5.out.read (M4.out.below Q5.out)).mono ?_; rintro e w6 ⟨yb, yi, rfl, ob6, oi6, b6⟩; obtain ⟨ayb, cyb, rfl⟩ := ob6.form; obtain ⟨ayi, cyi, rfl⟩ := oi6.form; have OB6 := hide ob6; have OI6 := hide oi6; have Q6 := hide (below_next Q5.out b6); clear ob6 oi6 b6) | refine wpList_allocA A3 rfl rfl ?_ | refine wpList_store_newA A3 rfl _ _ rfl _ rfl (pt3 N.length (.slice ayb tb.length cyb) (.slice ayi ti.length cyi)) rfl (pt3_one _ _ _ _ _ _ _) rfl rfl ?_)
    have b7 : Below w6.heap.size w6 (w6.alloc (.cells (pt3 N.length (.slice ayb tb.length cyb) (.slice ayi ti.length cyi)) 33)) := (Below.refl _ _).alloc (Nat.le_refl _) _
    have Q7 := hide (below_next Q6.out b7)
    have P7 := hide (P4.out.next Q7.out)
    have R7 := hide (heap_alloc_last w6 (.cells (pt3 N.length (.slice ayb tb.length cyb) (.slice ayi ti.length cyi)) 33))
    have OB7 := hide (OB6.out.below b7)
    have OI7 := hide (OI6.out.below b7)
    have XB7 := hide (OB4.out.below Q7.out)
    have XI7 := hide (OI4.out.below Q7.out)
    clear b7 Q6 OB6 OI6 OB4 OI4 G5 Q5 P4 HG HRP
    generalize w6.alloc (.cells (pt3 N.length (.slice ayb tb.length cyb) (.slice ayi ti.length cyi)) 33) = W7 at *
    generalize w6.heap.size = g9 at *
    have x0 := (pt3_cells P7.out.row).1
    have x1 := (pt3_cells P7.out.row).2.1
    have x2 := (pt3_cells P7.out.row).2.2
    have y0 := (pt3_cells R7.out).1
    have y1 := (pt3_cells R7.out).2.1
    have y2 := (pt3_cells R7.out).2.2
    go_upto_region 11 with (first | (go_at_call 10; refine (HSM.out _ _ _ XI7.out.read OI7.out.read).mono ?_; rintro e w8 ⟨rfl, b8⟩; have x1' := (pt3_cells (P7.out.next b8).row).2.1; have y1' := (pt3_cells ((b8.block _ (lt_heap R7.out)).trans R7.out)).2.1; have B8 := hide b8; clear b8) | (go_at_call 11; refine (HBT.out _ _ _ (XB7.out.below B8.out).read (OB7.out.below B8.out).read).mono ?_; rintro e W9 ⟨rfl, b9⟩; have B9 := hide (below_next (below_next P7.out.bel B8.out) b9); clear b9))
    clear x0 x1 x2 y0 y1 y2 x1' y1' B8 R7 OB7 OI7 XB7 XI7 Q7 P7 HBT HSM HTL h5 h6 hlb hli L4 M4 L2 M1
  -- TAIL
  all_goals
    clear hno
    have P9 := hide ((B9.out.block _ (lt_heap P1.out)).trans P1.out)
    have V9 := hide (V1.out.below B9.out)
    have I9 := hide (I1.out.below B9.out)
    have E9 := hide (below_next B1.out B9.out)
    have HR := hide (mread_any c _ _ bs is W9 V9.out I9.out (KW.out _ E9.out))
    clear V1 I1 P1 KW B1 hms hbs his hcm hcb
    unfold pt3 at P9
    cases hrt : rdT c bs is with
    | none =>
      rw [hrt] at HR
      go_upto_region 12 with (first | refine wpList_loadA A3q rfl _ rfl w.heap.size rfl #[.int .i64 c, .slice ab bs.length cb, .slice ai is.length ci] rfl 25 P9.out ?_ | (go_at_call 12; refine HR.out.mono ?_; rintro e w10 ⟨b10, rt⟩; have rt2 : e = .returned (.tuple #[.agg (hc zeros), .slice none 0 0, .slice none 0 0, .int .i64 61]) := rt; subst rt2; clear rt) | refine wpList_allocA A25 rfl rfl ?_ | refine wpList_store_newA A25 rfl _ _ rfl _ rfl (hc zeros) (by rw [hc_size, zeros_len]) (hc_one _) rfl rfl ?_)
      have b11 : Below w10.heap.size w10 (w10.alloc (.cells (hc zeros) 39)) := (Below.refl _ _).alloc (Nat.le_refl _) _
      have B10 := hide (below_next b10 b11)
      have R10 := hide (heap_alloc_last w10 (.cells (hc zeros) 39))
      clear b11 b10 HR
      generalize w10.alloc (.cells (hc zeros) 39) = W10 at *
      generalize w10.heap.size = g10 at *
      have V10 := hide (V9.out.below B10.out)
      have I10 := hide (I9.out.below B10.out)
      have P10 := hide ((B10.out.block _ (lt_heap P9.out)).trans P9.out)
      have HG : Hid (∀ W, Below W10.heap.size W10 W → Calls Tryd.prog 9 #[.slice ai is.length ci] W fun e w' => ∃ v', e = .returned v' ∧ Oj 38 W w' v' is) := fun W hb => given_any _ is W (I10.out.below hb) HMS.out.2.2
      have SL : Hid (∀ W, Below W10.heap.size W10 W → W.cell? ⟨w.heap.size, 0, none⟩ = some (.int .i64 c) ∧ W.cell? ⟨w.heap.size, 1, none⟩ = some (.slice ab bs.length cb) ∧ W.cell? ⟨w.heap.size, 2, none⟩ = some (.slice ai is.length ci)) := fun W hb => pt3_cells (t := 25) ((hb.block _ (lt_heap P10.out)).trans P10.out)
      have HRR : Hid (∀ W v, Below W10.heap.size W10 W → LH W v is → Calls Tryd.prog 13 #[.agg (pt3 c (.slice ab bs.length cb) v)] W fun e w' => Below W.heap.size W w' ∧ RTd W w' none e) := fun W v hb hv => by
        have := rread_any c (.slice ab bs.length cb) v bs is W (V10.out.below hb) hv HMS.out.2.1 (by have := HMS.out.2.2; omega)
        rw [hrt] at this
        exact this
      clear hrt
      go_cut [13, 14, 15, 16, 93] from 94 to 106 (fun s13 s14 s15 s16 s93 wx => s16 = .bool false ∧ Hid (Below W10.heap.size W10 wx))
      case first =>
        refine wp_region_held_drew (S := fun W => Below W10.heap.size W10 W) (by kernel_rfl) ((Below.refl _ _).drew) (fun hH => ?_)
        refine wpAnyH_take (i := 0) (v := .pointer (some ⟨w.heap.size, 0, none⟩)) rfl (by kernel_rfl) (by kernel_rfl) (by kernel_rfl) (fun _ _ _ h => h) (.inl ⟨by rfl, fun W _ => by go_simp⟩) hH ?_
        change wpAnyH _ _ _ _ _ _ _ (Act.put _ (some 94) _) _
        simp only [Act.put, List.setIfInBounds_toArray, List.set_cons_zero, List.set_cons_succ]
        refine wpAnyH_take (i := 1) (v := .int .i64 c) rfl (by kernel_rfl) (by kernel_rfl) (by kernel_rfl) (fun _ _ _ h => h) (.inl ⟨by rfl, fun W hS => by have c4 := (SL.out W hS).1; go_simp⟩) hH ?_
        change wpAnyH _ _ _ _ _ _ _ (Act.put _ (some 95) _) _
        simp only [Act.put, List.setIfInBounds_toArray, List.set_cons_zero, List.set_cons_succ]
        refine wpAnyH_take (i := 2) (v := .pointer (some ⟨w.heap.size, 1, none⟩)) rfl (by kernel_rfl) (by kernel_rfl) (by kernel_rfl) (fun _ _ _ h => h) (.inl ⟨by rfl, fun W _ => by go_simp⟩) hH ?_
        change wpAnyH _ _ _ _ _ _ _ (Act.put _ (some 96) _) _
        simp only [Act.put, List.setIfInBounds_toArray, List.set_cons_zero, List.set_cons_succ]
        refine wpAnyH_take (i := 3) (v := .slice ab bs.length cb) rfl (by kernel_rfl) (by kernel_rfl) (by kernel_rfl) (fun _ _ _ h => h) (.inl ⟨by rfl, fun W hS => by have c4 := (SL.out W hS).2.1; go_simp⟩) hH ?_
        change wpAnyH _ _ _ _ _ _ _ (Act.put _ (some 97) _) _
        simp only [Act.put, List.setIfInBounds_toArray, List.set_cons_zero, List.set_cons_succ]
        refine wpAnyH_take (i := 4) (v := .pointer (some ⟨w.heap.size, 2, none⟩)) rfl (by kernel_rfl) (by kernel_rfl) (by kernel_rfl) (fun _ _ _ h => h) (.inl ⟨by rfl, fun W _ => by go_simp⟩) hH ?_
        change wpAnyH _ _ _ _ _ _ _ (Act.put _ (some 98) _) _
        simp only [Act.put, List.setIfInBounds_toArray, List.set_cons_zero, List.set_cons_succ]
        refine wpAnyH_take (i := 5) (v := .slice ai is.length ci) rfl (by kernel_rfl) (by kernel_rfl) (by kernel_rfl) (fun _ _ _ h => h) (.inl ⟨by rfl, fun W hS => by have c4 := (SL.out W hS).2.2; go_simp⟩) hH ?_
        change wpAnyH _ _ _ _ _ _ _ (Act.put _ (some 99) _) _
        simp only [Act.put, List.setIfInBounds_toArray, List.set_cons_zero, List.set_cons_succ]
        refine wpAnyH_ready (rs := [6, 14]) (by kernel_rfl) (by simp) (AllReadyH.cons rfl (fun K1 hK1 => ?_) (AllReadyH.cons rfl (fun K1 hK1 => ?_) AllReadyH.nil))
        · go_simp
          refine (HG.out _ hH).mono ?_
          rintro e w21 ⟨v5, rfl, og⟩
          obtain ⟨a5, c5, rfl⟩ := og.own.form
          have G5 := hide og.own
          have bg := og.bel
          clear og
          refine hK1.out _ _ (below_next hH bg) (fun hH => ?_)
          clear hK1 bg
          refine wpAnyH_take (i := 7) (v := .agg (pt3 c (.slice ab bs.length cb) (.slice a5 is.length c5))) rfl (by kernel_rfl) (by kernel_rfl) (by kernel_rfl) (fun _ _ _ h => h) (.inl ⟨by rfl, fun W _ => by unfold pt3; go_simp⟩) hH ?_
          change wpAnyH _ _ _ _ _ _ _ (Act.put _ (some 101) _) _
          simp only [Act.put, List.setIfInBounds_toArray, List.set_cons_zero, List.set_cons_succ]
          refine wpAnyH_ready (rs := [8, 14]) (by kernel_rfl) (by simp) (AllReadyH.cons rfl (fun K1 hK1 => ?_) (AllReadyH.cons rfl (fun K1 hK1 => ?_) AllReadyH.nil))
          · have BR := hide hH
            go_simp
            refine (HRR.out _ _ hH G5.out.read).mono ?_
            rintro e w22 ⟨b6, rt⟩
            have rt2 : e = .returned (.tuple #[.agg (hc zeros), .slice none 0 0, .slice none 0 0, .bool false]) := rt
            subst rt2
            clear rt
            refine hK1.out _ _ (below_next BR.out b6) (fun hH => ?_)
            clear hK1 b6
            refine wpAnyH_take (i := 9) (v := .tuple #[.agg (hc zeros), .slice none 0 0, .slice none 0 0, .bool false]) rfl (by kernel_rfl) (by kernel_rfl) (by kernel_rfl) (fun _ _ _ h => h) (yl_move (by rfl) _ (by rfl) _ (by rfl)) hH ?_
            change wpAnyH _ _ _ _ _ _ _ (Act.put _ (some 93) _) _
            simp only [Act.put, List.setIfInBounds_toArray, List.set_cons_zero, List.set_cons_succ]
            refine wpAnyH_take (i := 10) (v := .agg (hc zeros)) rfl (by kernel_rfl) (by kernel_rfl) (by kernel_rfl) (fun _ _ _ h => h) (.inl ⟨by rfl, fun W _ => by go_simp⟩) hH ?_
            change wpAnyH _ _ _ _ _ _ _ (Act.put _ (some 103) _) _
            simp only [Act.put, List.setIfInBounds_toArray, List.set_cons_zero, List.set_cons_succ]
            refine wpAnyH_take (i := 11) (v := .slice none 0 0) rfl (by kernel_rfl) (by kernel_rfl) (by kernel_rfl) (fun _ _ _ h => h) (.inl ⟨by rfl, fun W _ => by go_simp⟩) hH ?_
            change wpAnyH _ _ _ _ _ _ _ (Act.put _ (some 104) _) _
            simp only [Act.put, List.setIfInBounds_toArray, List.set_cons_zero, List.set_cons_succ]
            refine wpAnyH_take (i := 12) (v := .slice none 0 0) rfl (by kernel_rfl) (by kernel_rfl) (by kernel_rfl) (fun _ _ _ h => h) (.inl ⟨by rfl, fun W _ => by go_simp⟩) hH ?_
            change wpAnyH _ _ _ _ _ _ _ (Act.put _ (some 105) _) _
            simp only [Act.put, List.setIfInBounds_toArray, List.set_cons_zero, List.set_cons_succ]
            refine wpAnyH_take (i := 13) (v := .bool false) rfl (by kernel_rfl) (by kernel_rfl) (by kernel_rfl) (fun _ _ _ h => h) (.inl ⟨by rfl, fun W _ => by go_simp⟩) hH ?_
            change wpAnyH _ _ _ _ _ _ _ (Act.put _ (some 106) _) _
            simp only [Act.put, List.setIfInBounds_toArray, List.set_cons_zero, List.set_cons_succ]
            refine wpAnyH_ready (rs := [14]) (by kernel_rfl) (by simp) (AllReadyH.cons rfl (fun K1 hK1 => ?_) AllReadyH.nil)
            refine stepAllocA A24 (by rfl) (by rfl) ?_
            have Z13 : Hid ((w22.alloc (.cells (hc zeros) 38)).heap[w22.heap.size]? = some (.cells (hc zeros) 38 (0, 0)) ∧ W10.heap.size ≤ w22.heap.size) := ⟨heap_alloc_last _ _, hH.size⟩
            refine hK1.out _ _ (hH.alloc hH.size _) (fun hH => ?_)
            clear hK1
            change wpAnyH _ _ _ _ _ _ _ (Act.put _ (some 13) _) _
            simp only [Act.put, List.setIfInBounds_toArray, List.set_cons_zero, List.set_cons_succ]
            generalize w22.heap.size = g13 at *
            generalize w22.alloc (.cells (hc zeros) 38) = W23 at *
            refine wpAnyH_ready (rs := [15]) (by kernel_rfl) (by simp) (AllReadyH.cons rfl (fun K1 hK1 => ?_) AllReadyH.nil)
            refine stepStoreA A24 (by rfl) _ _ (by rfl) _ (hc zeros) (by rw [hc_size, zeros_len]) (hc_one _) (by rfl) (by rfl) (hc zeros) (by rw [hc_size, zeros_len]) 38 Z13.out.1 ?_
            have H5 := hide (below_setRow hH Z13.out.2 (hc zeros))
            refine hK1.out _ _ H5.out (fun hH => ?_)
            clear hK1
            change wpAnyH _ _ _ _ _ _ _ (Act.put _ none _) _
            simp only [Act.put]
            refine wpAnyH_take (i := 16) (v := .slice none 0 0) rfl (by kernel_rfl) (by kernel_rfl) (by kernel_rfl) (fun _ _ _ h => h) (.inl ⟨by rfl, fun W _ => by go_simp⟩) hH ?_
            change wpAnyH _ _ _ _ _ _ _ (Act.put _ (some 14) _) _
            simp only [Act.put, List.setIfInBounds_toArray, List.set_cons_zero, List.set_cons_succ]
            refine wpAnyH_take (i := 17) (v := .slice none 0 0) rfl (by kernel_rfl) (by kernel_rfl) (by kernel_rfl) (fun _ _ _ h => h) (.inl ⟨by rfl, fun W _ => by go_simp⟩) hH ?_
            change wpAnyH _ _ _ _ _ _ _ (Act.put _ (some 15) _) _
            simp only [Act.put, List.setIfInBounds_toArray, List.set_cons_zero, List.set_cons_succ]
            refine wpAnyH_take (i := 18) (v := .bool false) rfl (by kernel_rfl) (by kernel_rfl) (by kernel_rfl) (fun _ _ _ h => h) (.inl ⟨by rfl, fun W _ => by go_simp⟩) hH ?_
            change wpAnyH _ _ _ _ _ _ _ (Act.put _ (some 16) _) _
            simp only [Act.put, List.setIfInBounds_toArray, List.set_cons_zero, List.set_cons_succ]
            refine wpAnyH_done (by kernel_rfl) ?_ _
            go_wp2_with fail
            go_meet
            exact ⟨rfl, H5⟩
          · refine stepAllocA A24 (by rfl) (by rfl) ?_
            have Z13 : Hid ((w21.alloc (.cells (hc zeros) 38)).heap[w21.heap.size]? = some (.cells (hc zeros) 38 (0, 0)) ∧ W10.heap.size ≤ w21.heap.size) := ⟨heap_alloc_last _ _, hH.size⟩
            replace G5 := hide (G5.out.alloc (.cells (hc zeros) 38))
            refine hK1.out _ _ (hH.alloc hH.size _) (fun hH => ?_)
            clear hK1
            change wpAnyH _ _ _ _ _ _ _ (Act.put _ (some 13) _) _
            simp only [Act.put, List.setIfInBounds_toArray, List.set_cons_zero, List.set_cons_succ]
            generalize w21.heap.size = g13 at *
            generalize w21.alloc (.cells (hc zeros) 38) = W24 at *
            refine wpAnyH_ready (rs := [8]) (by kernel_rfl) (by simp) (AllReadyH.cons rfl (fun K1 hK1 => ?_) AllReadyH.nil)
            have BR := hide hH
            go_simp
            refine (HRR.out _ _ hH G5.out.read).mono ?_
            rintro e w25 ⟨b6, rt⟩
            have rt2 : e = .returned (.tuple #[.agg (hc zeros), .slice none 0 0, .slice none 0 0, .bool false]) := rt
            subst rt2
            replace Z13 := hide (And.intro ((b6.block _ (lt_heap Z13.out.1)).trans Z13.out.1) Z13.out.2)
            clear rt
            refine hK1.out _ _ (below_next BR.out b6) (fun hH => ?_)
            clear hK1 b6
            refine wpAnyH_take (i := 9) (v := .tuple #[.agg (hc zeros), .slice none 0 0, .slice none 0 0, .bool false]) rfl (by kernel_rfl) (by kernel_rfl) (by kernel_rfl) (fun _ _ _ h => h) (yl_move (by rfl) _ (by rfl) _ (by rfl)) hH ?_
            change wpAnyH _ _ _ _ _ _ _ (Act.put _ (some 93) _) _
            simp only [Act.put, List.setIfInBounds_toArray, List.set_cons_zero, List.set_cons_succ]
            refine wpAnyH_take (i := 10) (v := .agg (hc zeros)) rfl (by kernel_rfl) (by kernel_rfl) (by kernel_rfl) (fun _ _ _ h => h) (.inl ⟨by rfl, fun W _ => by go_simp⟩) hH ?_
            change wpAnyH _ _ _ _ _ _ _ (Act.put _ (some 103) _) _
            simp only [Act.put, List.setIfInBounds_toArray, List.set_cons_zero, List.set_cons_succ]
            refine wpAnyH_take (i := 11) (v := .slice none 0 0) rfl (by kernel_rfl) (by kernel_rfl) (by kernel_rfl) (fun _ _ _ h => h) (.inl ⟨by rfl, fun W _ => by go_simp⟩) hH ?_
            change wpAnyH _ _ _ _ _ _ _ (Act.put _ (some 104) _) _
            simp only [Act.put, List.setIfInBounds_toArray, List.set_cons_zero, List.set_cons_succ]
            refine wpAnyH_take (i := 12) (v := .slice none 0 0) rfl (by kernel_rfl) (by kernel_rfl) (by kernel_rfl) (fun _ _ _ h => h) (.inl ⟨by rfl, fun W _ => by go_simp⟩) hH ?_
            change wpAnyH _ _ _ _ _ _ _ (Act.put _ (some 105) _) _
            simp only [Act.put, List.setIfInBounds_toArray, List.set_cons_zero, List.set_cons_succ]
            refine wpAnyH_take (i := 13) (v := .bool false) rfl (by kernel_rfl) (by kernel_rfl) (by kernel_rfl) (fun _ _ _ h => h) (.inl ⟨by rfl, fun W _ => by go_simp⟩) hH ?_
            change wpAnyH _ _ _ _ _ _ _ (Act.put _ (some 106) _) _
            simp only [Act.put, List.setIfInBounds_toArray, List.set_cons_zero, List.set_cons_succ]
            refine wpAnyH_ready (rs := [15]) (by kernel_rfl) (by simp) (AllReadyH.cons rfl (fun K1 hK1 => ?_) AllReadyH.nil)
            refine stepStoreA A24 (by rfl) _ _ (by rfl) _ (hc zeros) (by rw [hc_size, zeros_len]) (hc_one _) (by rfl) (by rfl) (hc zeros) (by rw [hc_size, zeros_len]) 38 Z13.out.1 ?_
            have H5 := hide (below_setRow hH Z13.out.2 (hc zeros))
            refine hK1.out _ _ H5.out (fun hH => ?_)
            clear hK1
            change wpAnyH _ _ _ _ _ _ _ (Act.put _ none _) _
            simp only [Act.put]
            refine wpAnyH_take (i := 16) (v := .slice none 0 0) rfl (by kernel_rfl) (by kernel_rfl) (by kernel_rfl) (fun _ _ _ h => h) (.inl ⟨by rfl, fun W _ => by go_simp⟩) hH ?_
            change wpAnyH _ _ _ _ _ _ _ (Act.put _ (some 14) _) _
            simp only [Act.put, List.setIfInBounds_toArray, List.set_cons_zero, List.set_cons_succ]
            refine wpAnyH_take (i := 17) (v := .slice none 0 0) rfl (by kernel_rfl) (by kernel_rfl) (by kernel_rfl) (fun _ _ _ h => h) (.inl ⟨by rfl, fun W _ => by go_simp⟩) hH ?_
            change wpAnyH _ _ _ _ _ _ _ (Act.put _ (some 15) _) _
            simp only [Act.put, List.setIfInBounds_toArray, List.set_cons_zero, List.set_cons_succ]
            refine wpAnyH_take (i := 18) (v := .bool false) rfl (by kernel_rfl) (by kernel_rfl) (by kernel_rfl) (fun _ _ _ h => h) (.inl ⟨by rfl, fun W _ => by go_simp⟩) hH ?_
            change wpAnyH _ _ _ _ _ _ _ (Act.put _ (some 16) _) _
            simp only [Act.put, List.setIfInBounds_toArray, List.set_cons_zero, List.set_cons_succ]
            refine wpAnyH_done (by kernel_rfl) ?_ _
            go_wp2_with fail
            go_meet
            exact ⟨rfl, H5⟩
        · refine stepAllocA A24 (by rfl) (by rfl) ?_
          have Z13 : Hid ((W10.drew.alloc (.cells (hc zeros) 38)).heap[W10.drew.heap.size]? = some (.cells (hc zeros) 38 (0, 0)) ∧ W10.heap.size ≤ W10.drew.heap.size) := ⟨heap_alloc_last _ _, hH.size⟩
          refine hK1.out _ _ (hH.alloc hH.size _) (fun hH => ?_)
          clear hK1
          change wpAnyH _ _ _ _ _ _ _ (Act.put _ (some 13) _) _
          simp only [Act.put, List.setIfInBounds_toArray, List.set_cons_zero, List.set_cons_succ]
          generalize W10.drew.heap.size = g13 at *
          generalize W10.drew.alloc (.cells (hc zeros) 38) = W26 at *
          refine wpAnyH_ready (rs := [6]) (by kernel_rfl) (by simp) (AllReadyH.cons rfl (fun K1 hK1 => ?_) AllReadyH.nil)
          go_simp
          refine (HG.out _ hH).mono ?_
          rintro e w27 ⟨v5, rfl, og⟩
          obtain ⟨a5, c5, rfl⟩ := og.own.form
          have G5 := hide og.own
          have bg := og.bel
          clear og
          replace Z13 := hide (And.intro ((bg.block _ (lt_heap Z13.out.1)).trans Z13.out.1) Z13.out.2)
          refine hK1.out _ _ (below_next hH bg) (fun hH => ?_)
          clear hK1 bg
          refine wpAnyH_take (i := 7) (v := .agg (pt3 c (.slice ab bs.length cb) (.slice a5 is.length c5))) rfl (by kernel_rfl) (by kernel_rfl) (by kernel_rfl) (fun _ _ _ h => h) (.inl ⟨by rfl, fun W _ => by unfold pt3; go_simp⟩) hH ?_
          change wpAnyH _ _ _ _ _ _ _ (Act.put _ (some 101) _) _
          simp only [Act.put, List.setIfInBounds_toArray, List.set_cons_zero, List.set_cons_succ]
          refine wpAnyH_ready (rs := [8]) (by kernel_rfl) (by simp) (AllReadyH.cons rfl (fun K1 hK1 => ?_) AllReadyH.nil)
          have BR := hide hH
          go_simp
          refine (HRR.out _ _ hH G5.out.read).mono ?_
          rintro e w28 ⟨b6, rt⟩
          have rt2 : e = .returned (.tuple #[.agg (hc zeros), .slice none 0 0, .slice none 0 0, .bool false]) := rt
          subst rt2
          replace Z13 := hide (And.intro ((b6.block _ (lt_heap Z13.out.1)).trans Z13.out.1) Z13.out.2)
          clear rt
          refine hK1.out _ _ (below_next BR.out b6) (fun hH => ?_)
          clear hK1 b6
          refine wpAnyH_take (i := 9) (v := .tuple #[.agg (hc zeros), .slice none 0 0, .slice none 0 0, .bool false]) rfl (by kernel_rfl) (by kernel_rfl) (by kernel_rfl) (fun _ _ _ h => h) (yl_move (by rfl) _ (by rfl) _ (by rfl)) hH ?_
          change wpAnyH _ _ _ _ _ _ _ (Act.put _ (some 93) _) _
          simp only [Act.put, List.setIfInBounds_toArray, List.set_cons_zero, List.set_cons_succ]
          refine wpAnyH_take (i := 10) (v := .agg (hc zeros)) rfl (by kernel_rfl) (by kernel_rfl) (by kernel_rfl) (fun _ _ _ h => h) (.inl ⟨by rfl, fun W _ => by go_simp⟩) hH ?_
          change wpAnyH _ _ _ _ _ _ _ (Act.put _ (some 103) _) _
          simp only [Act.put, List.setIfInBounds_toArray, List.set_cons_zero, List.set_cons_succ]
          refine wpAnyH_take (i := 11) (v := .slice none 0 0) rfl (by kernel_rfl) (by kernel_rfl) (by kernel_rfl) (fun _ _ _ h => h) (.inl ⟨by rfl, fun W _ => by go_simp⟩) hH ?_
          change wpAnyH _ _ _ _ _ _ _ (Act.put _ (some 104) _) _
          simp only [Act.put, List.setIfInBounds_toArray, List.set_cons_zero, List.set_cons_succ]
          refine wpAnyH_take (i := 12) (v := .slice none 0 0) rfl (by kernel_rfl) (by kernel_rfl) (by kernel_rfl) (fun _ _ _ h => h) (.inl ⟨by rfl, fun W _ => by go_simp⟩) hH ?_
          change wpAnyH _ _ _ _ _ _ _ (Act.put _ (some 105) _) _
          simp only [Act.put, List.setIfInBounds_toArray, List.set_cons_zero, List.set_cons_succ]
          refine wpAnyH_take (i := 13) (v := .bool false) rfl (by kernel_rfl) (by kernel_rfl) (by kernel_rfl) (fun _ _ _ h => h) (.inl ⟨by rfl, fun W _ => by go_simp⟩) hH ?_
          change wpAnyH _ _ _ _ _ _ _ (Act.put _ (some 106) _) _
          simp only [Act.put, List.setIfInBounds_toArray, List.set_cons_zero, List.set_cons_succ]
          refine wpAnyH_ready (rs := [15]) (by kernel_rfl) (by simp) (AllReadyH.cons rfl (fun K1 hK1 => ?_) AllReadyH.nil)
          refine stepStoreA A24 (by rfl) _ _ (by rfl) _ (hc zeros) (by rw [hc_size, zeros_len]) (hc_one _) (by rfl) (by rfl) (hc zeros) (by rw [hc_size, zeros_len]) 38 Z13.out.1 ?_
          have H5 := hide (below_setRow hH Z13.out.2 (hc zeros))
          refine hK1.out _ _ H5.out (fun hH => ?_)
          clear hK1
          change wpAnyH _ _ _ _ _ _ _ (Act.put _ none _) _
          simp only [Act.put]
          refine wpAnyH_take (i := 16) (v := .slice none 0 0) rfl (by kernel_rfl) (by kernel_rfl) (by kernel_rfl) (fun _ _ _ h => h) (.inl ⟨by rfl, fun W _ => by go_simp⟩) hH ?_
          change wpAnyH _ _ _ _ _ _ _ (Act.put _ (some 14) _) _
          simp only [Act.put, List.setIfInBounds_toArray, List.set_cons_zero, List.set_cons_succ]
          refine wpAnyH_take (i := 17) (v := .slice none 0 0) rfl (by kernel_rfl) (by kernel_rfl) (by kernel_rfl) (fun _ _ _ h => h) (.inl ⟨by rfl, fun W _ => by go_simp⟩) hH ?_
          change wpAnyH _ _ _ _ _ _ _ (Act.put _ (some 15) _) _
          simp only [Act.put, List.setIfInBounds_toArray, List.set_cons_zero, List.set_cons_succ]
          refine wpAnyH_take (i := 18) (v := .bool false) rfl (by kernel_rfl) (by kernel_rfl) (by kernel_rfl) (fun _ _ _ h => h) (.inl ⟨by rfl, fun W _ => by go_simp⟩) hH ?_
          change wpAnyH _ _ _ _ _ _ _ (Act.put _ (some 16) _) _
          simp only [Act.put, List.setIfInBounds_toArray, List.set_cons_zero, List.set_cons_succ]
          refine wpAnyH_done (by kernel_rfl) ?_ _
          go_wp2_with fail
          go_meet
          exact ⟨rfl, H5⟩
      obtain ⟨rfl, B12⟩ := hcut
      have R12 := hide ((B12.out.block _ (lt_heap R10.out)).trans R10.out)
      have EZ := hide fun W => eqH EH zeros zeros zeros_len zeros_len W
      rw [show (zeros == zeros) = true by simp] at EZ
      go_wp2_with (first | refine wpList_loadA A25 rfl _ rfl g10 rfl (hc zeros) (by rw [hc_size, zeros_len]) 39 R12.out ?_ | refine wpList_buildA A25 rfl rfl ?_ | refine wpList_eql 39 _ _ _ (by rfl) (hc zeros) (hc zeros) (by rfl) (by rfl) (by rfl) eqg25 true EZ.out ?_)
      go_ret
      exact ⟨rfl, below_next (below_next E9.out B10.out) B12.out⟩
    | some r =>
      rw [hrt] at HR
      have RL := hide (rdT_len hrt)
      go_upto_region 12 with (first | refine wpList_loadA A3q rfl _ rfl w.heap.size rfl #[.int .i64 c, .slice ab bs.length cb, .slice ai is.length ci] rfl 25 P9.out ?_ | (go_at_call 12; refine HR.out.mono ?_; rintro e w10 ⟨b10, rt⟩; obtain ⟨vp1, vm1, rfl, idl, op1, om1⟩ := rt; have IDL := hide idl; have OP1 := hide op1; have OM1 := hide om1; clear idl op1 om1) | refine wpList_allocA A25 rfl rfl ?_ | refine wpList_store_newA A25 rfl _ _ rfl _ rfl (hc r.id) (by rw [hc_size, IDL.out]) (hc_one _) rfl rfl ?_)
      have b11 : Below w10.heap.size w10 (w10.alloc (.cells (hc r.id) 39)) := (Below.refl _ _).alloc (Nat.le_refl _) _
      have B10 := hide (below_next b10 b11)
      have R10 := hide (heap_alloc_last w10 (.cells (hc r.id) 39))
      have OP2 := hide (OP1.out.below b11)
      have OM2 := hide (OM1.out.below b11)
      clear b11 b10 HR OP1 OM1
      generalize w10.alloc (.cells (hc r.id) 39) = W10 at *
      generalize w10.heap.size = g10 at *
      have V10 := hide (V9.out.below B10.out)
      have I10 := hide (I9.out.below B10.out)
      have P10 := hide ((B10.out.block _ (lt_heap P9.out)).trans P9.out)
      have HG : Hid (∀ W, Below W10.heap.size W10 W → Calls Tryd.prog 9 #[.slice ai is.length ci] W fun e w' => ∃ v', e = .returned v' ∧ Oj 38 W w' v' is) := fun W hb => given_any _ is W (I10.out.below hb) HMS.out.2.2
      have SL : Hid (∀ W, Below W10.heap.size W10 W → W.cell? ⟨w.heap.size, 0, none⟩ = some (.int .i64 c) ∧ W.cell? ⟨w.heap.size, 1, none⟩ = some (.slice ab bs.length cb) ∧ W.cell? ⟨w.heap.size, 2, none⟩ = some (.slice ai is.length ci)) := fun W hb => pt3_cells (t := 25) ((hb.block _ (lt_heap P10.out)).trans P10.out)
      have HRR : Hid (∀ W v, Below W10.heap.size W10 W → LH W v is → Calls Tryd.prog 13 #[.agg (pt3 c (.slice ab bs.length cb) v)] W fun e w' => Below W.heap.size W w' ∧ RTd W w' (some r) e) := fun W v hb hv => by
        have := rread_any c (.slice ab bs.length cb) v bs is W (V10.out.below hb) hv HMS.out.2.1 (by have := HMS.out.2.2; omega)
        rw [hrt] at this
        exact this
      clear hrt
      go_cut [13, 14, 15, 16, 93] from 94 to 106 (fun s13 s14 s15 s16 s93 wx => ∃ g13 vp4 vm4, s13 = .pointer (some ⟨g13, 0, none⟩) ∧ s14 = vp4 ∧ s15 = vm4 ∧ s16 = .bool true ∧ Hid (wx.heap[g13]? = some (.cells (hc r.id) 38 (0, 0))) ∧ Hid (OI wx vp4 r.places) ∧ Hid (OH 38 wx vm4 r.meant) ∧ Hid (Below W10.heap.size W10 wx))
      case first =>
        refine wp_region_held_drew (S := fun W => Below W10.heap.size W10 W) (by kernel_rfl) ((Below.refl _ _).drew) (fun hH => ?_)
        refine wpAnyH_take (i := 0) (v := .pointer (some ⟨w.heap.size, 0, none⟩)) rfl (by kernel_rfl) (by kernel_rfl) (by kernel_rfl) (fun _ _ _ h => h) (.inl ⟨by rfl, fun W _ => by go_simp⟩) hH ?_
        change wpAnyH _ _ _ _ _ _ _ (Act.put _ (some 94) _) _
        simp only [Act.put, List.setIfInBounds_toArray, List.set_cons_zero, List.set_cons_succ]
        refine wpAnyH_take (i := 1) (v := .int .i64 c) rfl (by kernel_rfl) (by kernel_rfl) (by kernel_rfl) (fun _ _ _ h => h) (.inl ⟨by rfl, fun W hS => by have c4 := (SL.out W hS).1; go_simp⟩) hH ?_
        change wpAnyH _ _ _ _ _ _ _ (Act.put _ (some 95) _) _
        simp only [Act.put, List.setIfInBounds_toArray, List.set_cons_zero, List.set_cons_succ]
        refine wpAnyH_take (i := 2) (v := .pointer (some ⟨w.heap.size, 1, none⟩)) rfl (by kernel_rfl) (by kernel_rfl) (by kernel_rfl) (fun _ _ _ h => h) (.inl ⟨by rfl, fun W _ => by go_simp⟩) hH ?_
        change wpAnyH _ _ _ _ _ _ _ (Act.put _ (some 96) _) _
        simp only [Act.put, List.setIfInBounds_toArray, List.set_cons_zero, List.set_cons_succ]
        refine wpAnyH_take (i := 3) (v := .slice ab bs.length cb) rfl (by kernel_rfl) (by kernel_rfl) (by kernel_rfl) (fun _ _ _ h => h) (.inl ⟨by rfl, fun W hS => by have c4 := (SL.out W hS).2.1; go_simp⟩) hH ?_
        change wpAnyH _ _ _ _ _ _ _ (Act.put _ (some 97) _) _
        simp only [Act.put, List.setIfInBounds_toArray, List.set_cons_zero, List.set_cons_succ]
        refine wpAnyH_take (i := 4) (v := .pointer (some ⟨w.heap.size, 2, none⟩)) rfl (by kernel_rfl) (by kernel_rfl) (by kernel_rfl) (fun _ _ _ h => h) (.inl ⟨by rfl, fun W _ => by go_simp⟩) hH ?_
        change wpAnyH _ _ _ _ _ _ _ (Act.put _ (some 98) _) _
        simp only [Act.put, List.setIfInBounds_toArray, List.set_cons_zero, List.set_cons_succ]
        refine wpAnyH_take (i := 5) (v := .slice ai is.length ci) rfl (by kernel_rfl) (by kernel_rfl) (by kernel_rfl) (fun _ _ _ h => h) (.inl ⟨by rfl, fun W hS => by have c4 := (SL.out W hS).2.2; go_simp⟩) hH ?_
        change wpAnyH _ _ _ _ _ _ _ (Act.put _ (some 99) _) _
        simp only [Act.put, List.setIfInBounds_toArray, List.set_cons_zero, List.set_cons_succ]
        refine wpAnyH_ready (rs := [6, 14]) (by kernel_rfl) (by simp) (AllReadyH.cons rfl (fun K1 hK1 => ?_) (AllReadyH.cons rfl (fun K1 hK1 => ?_) AllReadyH.nil))
        · go_simp
          refine (HG.out _ hH).mono ?_
          rintro e w21 ⟨v5, rfl, og⟩
          obtain ⟨a5, c5, rfl⟩ := og.own.form
          have G5 := hide og.own
          have bg := og.bel
          clear og
          refine hK1.out _ _ (below_next hH bg) (fun hH => ?_)
          clear hK1 bg
          refine wpAnyH_take (i := 7) (v := .agg (pt3 c (.slice ab bs.length cb) (.slice a5 is.length c5))) rfl (by kernel_rfl) (by kernel_rfl) (by kernel_rfl) (fun _ _ _ h => h) (.inl ⟨by rfl, fun W _ => by unfold pt3; go_simp⟩) hH ?_
          change wpAnyH _ _ _ _ _ _ _ (Act.put _ (some 101) _) _
          simp only [Act.put, List.setIfInBounds_toArray, List.set_cons_zero, List.set_cons_succ]
          refine wpAnyH_ready (rs := [8, 14]) (by kernel_rfl) (by simp) (AllReadyH.cons rfl (fun K1 hK1 => ?_) (AllReadyH.cons rfl (fun K1 hK1 => ?_) AllReadyH.nil))
          · have BR := hide hH
            go_simp
            refine (HRR.out _ _ hH G5.out.read).mono ?_
            rintro e w22 ⟨b6, rt⟩
            obtain ⟨vp4, vm4, rfl, _, op4, om4, fp4, fm4⟩ := rt
            have OP := hide op4
            have OQ := hide om4
            clear op4 om4 fp4 fm4
            refine hK1.out _ _ (below_next BR.out b6) (fun hH => ?_)
            clear hK1 b6
            refine wpAnyH_take (i := 9) (v := .tuple #[.agg (hc r.id), vp4, vm4, .bool true]) rfl (by kernel_rfl) (by kernel_rfl) (by kernel_rfl) (fun _ _ _ h => h) (yl_move (by rfl) _ (by rfl) _ (by rfl)) hH ?_
            change wpAnyH _ _ _ _ _ _ _ (Act.put _ (some 93) _) _
            simp only [Act.put, List.setIfInBounds_toArray, List.set_cons_zero, List.set_cons_succ]
            refine wpAnyH_take (i := 10) (v := .agg (hc r.id)) rfl (by kernel_rfl) (by kernel_rfl) (by kernel_rfl) (fun _ _ _ h => h) (.inl ⟨by rfl, fun W _ => by go_simp⟩) hH ?_
            change wpAnyH _ _ _ _ _ _ _ (Act.put _ (some 103) _) _
            simp only [Act.put, List.setIfInBounds_toArray, List.set_cons_zero, List.set_cons_succ]
            refine wpAnyH_take (i := 11) (v := vp4) rfl (by kernel_rfl) (by kernel_rfl) (by kernel_rfl) (fun _ _ _ h => h) (.inl ⟨by rfl, fun W _ => by go_simp⟩) hH ?_
            change wpAnyH _ _ _ _ _ _ _ (Act.put _ (some 104) _) _
            simp only [Act.put, List.setIfInBounds_toArray, List.set_cons_zero, List.set_cons_succ]
            refine wpAnyH_take (i := 12) (v := vm4) rfl (by kernel_rfl) (by kernel_rfl) (by kernel_rfl) (fun _ _ _ h => h) (.inl ⟨by rfl, fun W _ => by go_simp⟩) hH ?_
            change wpAnyH _ _ _ _ _ _ _ (Act.put _ (some 105) _) _
            simp only [Act.put, List.setIfInBounds_toArray, List.set_cons_zero, List.set_cons_succ]
            refine wpAnyH_take (i := 13) (v := .bool true) rfl (by kernel_rfl) (by kernel_rfl) (by kernel_rfl) (fun _ _ _ h => h) (.inl ⟨by rfl, fun W _ => by go_simp⟩) hH ?_
            change wpAnyH _ _ _ _ _ _ _ (Act.put _ (some 106) _) _
            simp only [Act.put, List.setIfInBounds_toArray, List.set_cons_zero, List.set_cons_succ]
            refine wpAnyH_ready (rs := [14]) (by kernel_rfl) (by simp) (AllReadyH.cons rfl (fun K1 hK1 => ?_) AllReadyH.nil)
            refine stepAllocA A24 (by rfl) (by rfl) ?_
            have Z13 : Hid ((w22.alloc (.cells (hc zeros) 38)).heap[w22.heap.size]? = some (.cells (hc zeros) 38 (0, 0)) ∧ W10.heap.size ≤ w22.heap.size) := ⟨heap_alloc_last _ _, hH.size⟩
            have NF : Hid ((∀ g, vp4.ownBlock = some g → g ≠ w22.heap.size) ∧ (∀ g, vm4.ownBlock = some g → g ≠ w22.heap.size)) := ⟨fun g hg => by have := OP.out.lt g hg; omega, fun g hg => by have := OQ.out.lt g hg; omega⟩
            replace OP := hide (OP.out.below ((Below.refl _ _).alloc (Nat.le_refl _) (.cells (hc zeros) 38)))
            replace OQ := hide (OQ.out.below ((Below.refl _ _).alloc (Nat.le_refl _) (.cells (hc zeros) 38)))
            refine hK1.out _ _ (hH.alloc hH.size _) (fun hH => ?_)
            clear hK1
            change wpAnyH _ _ _ _ _ _ _ (Act.put _ (some 13) _) _
            simp only [Act.put, List.setIfInBounds_toArray, List.set_cons_zero, List.set_cons_succ]
            generalize w22.heap.size = g13 at *
            generalize w22.alloc (.cells (hc zeros) 38) = W23 at *
            refine wpAnyH_ready (rs := [15]) (by kernel_rfl) (by simp) (AllReadyH.cons rfl (fun K1 hK1 => ?_) AllReadyH.nil)
            refine stepStoreA A24 (by rfl) _ _ (by rfl) _ (hc r.id) (by rw [hc_size, IDL.out]) (hc_one _) (by rfl) (by rfl) (hc zeros) (by rw [hc_size, zeros_len]) 38 Z13.out.1 ?_
            have H5 := hide (below_setRow hH Z13.out.2 (hc r.id))
            have O5 := hide (OP.out.of_block (fun g hg => setRow_other _ _ _ (hc r.id) (NF.out.1 g hg)))
            have Q5 := hide (OQ.out.of_block (fun g hg => setRow_other _ _ _ (hc r.id) (NF.out.2 g hg)))
            have R5 := hide (setRow_heap _ _ _ (hc r.id) _ _ Z13.out.1)
            refine hK1.out _ _ H5.out (fun hH => ?_)
            clear hK1
            change wpAnyH _ _ _ _ _ _ _ (Act.put _ none _) _
            simp only [Act.put]
            refine wpAnyH_take (i := 16) (v := vp4) rfl (by kernel_rfl) (by kernel_rfl) (by kernel_rfl) (fun _ _ _ h => h) (.inl ⟨by rfl, fun W _ => by go_simp⟩) hH ?_
            change wpAnyH _ _ _ _ _ _ _ (Act.put _ (some 14) _) _
            simp only [Act.put, List.setIfInBounds_toArray, List.set_cons_zero, List.set_cons_succ]
            refine wpAnyH_take (i := 17) (v := vm4) rfl (by kernel_rfl) (by kernel_rfl) (by kernel_rfl) (fun _ _ _ h => h) (.inl ⟨by rfl, fun W _ => by go_simp⟩) hH ?_
            change wpAnyH _ _ _ _ _ _ _ (Act.put _ (some 15) _) _
            simp only [Act.put, List.setIfInBounds_toArray, List.set_cons_zero, List.set_cons_succ]
            refine wpAnyH_take (i := 18) (v := .bool true) rfl (by kernel_rfl) (by kernel_rfl) (by kernel_rfl) (fun _ _ _ h => h) (.inl ⟨by rfl, fun W _ => by go_simp⟩) hH ?_
            change wpAnyH _ _ _ _ _ _ _ (Act.put _ (some 16) _) _
            simp only [Act.put, List.setIfInBounds_toArray, List.set_cons_zero, List.set_cons_succ]
            refine wpAnyH_done (by kernel_rfl) ?_ _
            go_wp2_with fail
            go_meet
            exact ⟨_, _, _, rfl, rfl, rfl, rfl, R5, O5, Q5, H5⟩
          · refine stepAllocA A24 (by rfl) (by rfl) ?_
            have Z13 : Hid ((w21.alloc (.cells (hc zeros) 38)).heap[w21.heap.size]? = some (.cells (hc zeros) 38 (0, 0)) ∧ W10.heap.size ≤ w21.heap.size) := ⟨heap_alloc_last _ _, hH.size⟩
            replace G5 := hide (G5.out.alloc (.cells (hc zeros) 38))
            refine hK1.out _ _ (hH.alloc hH.size _) (fun hH => ?_)
            clear hK1
            change wpAnyH _ _ _ _ _ _ _ (Act.put _ (some 13) _) _
            simp only [Act.put, List.setIfInBounds_toArray, List.set_cons_zero, List.set_cons_succ]
            generalize w21.heap.size = g13 at *
            generalize w21.alloc (.cells (hc zeros) 38) = W24 at *
            refine wpAnyH_ready (rs := [8]) (by kernel_rfl) (by simp) (AllReadyH.cons rfl (fun K1 hK1 => ?_) AllReadyH.nil)
            have BR := hide hH
            go_simp
            refine (HRR.out _ _ hH G5.out.read).mono ?_
            rintro e w25 ⟨b6, rt⟩
            obtain ⟨vp4, vm4, rfl, _, op4, om4, fp4, fm4⟩ := rt
            have OP := hide op4
            have OQ := hide om4
            have NF : Hid ((∀ g, vp4.ownBlock = some g → g ≠ g13) ∧ (∀ g, vm4.ownBlock = some g → g ≠ g13)) := ⟨fun g hg => by have := fp4 g hg; have := lt_heap Z13.out.1; omega, fun g hg => by have := fm4 g hg; have := lt_heap Z13.out.1; omega⟩
            replace Z13 := hide (And.intro ((b6.block _ (lt_heap Z13.out.1)).trans Z13.out.1) Z13.out.2)
            clear op4 om4 fp4 fm4
            refine hK1.out _ _ (below_next BR.out b6) (fun hH => ?_)
            clear hK1 b6
            refine wpAnyH_take (i := 9) (v := .tuple #[.agg (hc r.id), vp4, vm4, .bool true]) rfl (by kernel_rfl) (by kernel_rfl) (by kernel_rfl) (fun _ _ _ h => h) (yl_move (by rfl) _ (by rfl) _ (by rfl)) hH ?_
            change wpAnyH _ _ _ _ _ _ _ (Act.put _ (some 93) _) _
            simp only [Act.put, List.setIfInBounds_toArray, List.set_cons_zero, List.set_cons_succ]
            refine wpAnyH_take (i := 10) (v := .agg (hc r.id)) rfl (by kernel_rfl) (by kernel_rfl) (by kernel_rfl) (fun _ _ _ h => h) (.inl ⟨by rfl, fun W _ => by go_simp⟩) hH ?_
            change wpAnyH _ _ _ _ _ _ _ (Act.put _ (some 103) _) _
            simp only [Act.put, List.setIfInBounds_toArray, List.set_cons_zero, List.set_cons_succ]
            refine wpAnyH_take (i := 11) (v := vp4) rfl (by kernel_rfl) (by kernel_rfl) (by kernel_rfl) (fun _ _ _ h => h) (.inl ⟨by rfl, fun W _ => by go_simp⟩) hH ?_
            change wpAnyH _ _ _ _ _ _ _ (Act.put _ (some 104) _) _
            simp only [Act.put, List.setIfInBounds_toArray, List.set_cons_zero, List.set_cons_succ]
            refine wpAnyH_take (i := 12) (v := vm4) rfl (by kernel_rfl) (by kernel_rfl) (by kernel_rfl) (fun _ _ _ h => h) (.inl ⟨by rfl, fun W _ => by go_simp⟩) hH ?_
            change wpAnyH _ _ _ _ _ _ _ (Act.put _ (some 105) _) _
            simp only [Act.put, List.setIfInBounds_toArray, List.set_cons_zero, List.set_cons_succ]
            refine wpAnyH_take (i := 13) (v := .bool true) rfl (by kernel_rfl) (by kernel_rfl) (by kernel_rfl) (fun _ _ _ h => h) (.inl ⟨by rfl, fun W _ => by go_simp⟩) hH ?_
            change wpAnyH _ _ _ _ _ _ _ (Act.put _ (some 106) _) _
            simp only [Act.put, List.setIfInBounds_toArray, List.set_cons_zero, List.set_cons_succ]
            refine wpAnyH_ready (rs := [15]) (by kernel_rfl) (by simp) (AllReadyH.cons rfl (fun K1 hK1 => ?_) AllReadyH.nil)
            refine stepStoreA A24 (by rfl) _ _ (by rfl) _ (hc r.id) (by rw [hc_size, IDL.out]) (hc_one _) (by rfl) (by rfl) (hc zeros) (by rw [hc_size, zeros_len]) 38 Z13.out.1 ?_
            have H5 := hide (below_setRow hH Z13.out.2 (hc r.id))
            have O5 := hide (OP.out.of_block (fun g hg => setRow_other _ _ _ (hc r.id) (NF.out.1 g hg)))
            have Q5 := hide (OQ.out.of_block (fun g hg => setRow_other _ _ _ (hc r.id) (NF.out.2 g hg)))
            have R5 := hide (setRow_heap _ _ _ (hc r.id) _ _ Z13.out.1)
            refine hK1.out _ _ H5.out (fun hH => ?_)
            clear hK1
            change wpAnyH _ _ _ _ _ _ _ (Act.put _ none _) _
            simp only [Act.put]
            refine wpAnyH_take (i := 16) (v := vp4) rfl (by kernel_rfl) (by kernel_rfl) (by kernel_rfl) (fun _ _ _ h => h) (.inl ⟨by rfl, fun W _ => by go_simp⟩) hH ?_
            change wpAnyH _ _ _ _ _ _ _ (Act.put _ (some 14) _) _
            simp only [Act.put, List.setIfInBounds_toArray, List.set_cons_zero, List.set_cons_succ]
            refine wpAnyH_take (i := 17) (v := vm4) rfl (by kernel_rfl) (by kernel_rfl) (by kernel_rfl) (fun _ _ _ h => h) (.inl ⟨by rfl, fun W _ => by go_simp⟩) hH ?_
            change wpAnyH _ _ _ _ _ _ _ (Act.put _ (some 15) _) _
            simp only [Act.put, List.setIfInBounds_toArray, List.set_cons_zero, List.set_cons_succ]
            refine wpAnyH_take (i := 18) (v := .bool true) rfl (by kernel_rfl) (by kernel_rfl) (by kernel_rfl) (fun _ _ _ h => h) (.inl ⟨by rfl, fun W _ => by go_simp⟩) hH ?_
            change wpAnyH _ _ _ _ _ _ _ (Act.put _ (some 16) _) _
            simp only [Act.put, List.setIfInBounds_toArray, List.set_cons_zero, List.set_cons_succ]
            refine wpAnyH_done (by kernel_rfl) ?_ _
            go_wp2_with fail
            go_meet
            exact ⟨_, _, _, rfl, rfl, rfl, rfl, R5, O5, Q5, H5⟩
        · refine stepAllocA A24 (by rfl) (by rfl) ?_
          have Z13 : Hid ((W10.drew.alloc (.cells (hc zeros) 38)).heap[W10.drew.heap.size]? = some (.cells (hc zeros) 38 (0, 0)) ∧ W10.heap.size ≤ W10.drew.heap.size) := ⟨heap_alloc_last _ _, hH.size⟩
          refine hK1.out _ _ (hH.alloc hH.size _) (fun hH => ?_)
          clear hK1
          change wpAnyH _ _ _ _ _ _ _ (Act.put _ (some 13) _) _
          simp only [Act.put, List.setIfInBounds_toArray, List.set_cons_zero, List.set_cons_succ]
          generalize W10.drew.heap.size = g13 at *
          generalize W10.drew.alloc (.cells (hc zeros) 38) = W26 at *
          refine wpAnyH_ready (rs := [6]) (by kernel_rfl) (by simp) (AllReadyH.cons rfl (fun K1 hK1 => ?_) AllReadyH.nil)
          go_simp
          refine (HG.out _ hH).mono ?_
          rintro e w27 ⟨v5, rfl, og⟩
          obtain ⟨a5, c5, rfl⟩ := og.own.form
          have G5 := hide og.own
          have bg := og.bel
          clear og
          replace Z13 := hide (And.intro ((bg.block _ (lt_heap Z13.out.1)).trans Z13.out.1) Z13.out.2)
          refine hK1.out _ _ (below_next hH bg) (fun hH => ?_)
          clear hK1 bg
          refine wpAnyH_take (i := 7) (v := .agg (pt3 c (.slice ab bs.length cb) (.slice a5 is.length c5))) rfl (by kernel_rfl) (by kernel_rfl) (by kernel_rfl) (fun _ _ _ h => h) (.inl ⟨by rfl, fun W _ => by unfold pt3; go_simp⟩) hH ?_
          change wpAnyH _ _ _ _ _ _ _ (Act.put _ (some 101) _) _
          simp only [Act.put, List.setIfInBounds_toArray, List.set_cons_zero, List.set_cons_succ]
          refine wpAnyH_ready (rs := [8]) (by kernel_rfl) (by simp) (AllReadyH.cons rfl (fun K1 hK1 => ?_) AllReadyH.nil)
          have BR := hide hH
          go_simp
          refine (HRR.out _ _ hH G5.out.read).mono ?_
          rintro e w28 ⟨b6, rt⟩
          obtain ⟨vp4, vm4, rfl, _, op4, om4, fp4, fm4⟩ := rt
          have OP := hide op4
          have OQ := hide om4
          have NF : Hid ((∀ g, vp4.ownBlock = some g → g ≠ g13) ∧ (∀ g, vm4.ownBlock = some g → g ≠ g13)) := ⟨fun g hg => by have := fp4 g hg; have := lt_heap Z13.out.1; omega, fun g hg => by have := fm4 g hg; have := lt_heap Z13.out.1; omega⟩
          replace Z13 := hide (And.intro ((b6.block _ (lt_heap Z13.out.1)).trans Z13.out.1) Z13.out.2)
          clear op4 om4 fp4 fm4
          refine hK1.out _ _ (below_next BR.out b6) (fun hH => ?_)
          clear hK1 b6
          refine wpAnyH_take (i := 9) (v := .tuple #[.agg (hc r.id), vp4, vm4, .bool true]) rfl (by kernel_rfl) (by kernel_rfl) (by kernel_rfl) (fun _ _ _ h => h) (yl_move (by rfl) _ (by rfl) _ (by rfl)) hH ?_
          change wpAnyH _ _ _ _ _ _ _ (Act.put _ (some 93) _) _
          simp only [Act.put, List.setIfInBounds_toArray, List.set_cons_zero, List.set_cons_succ]
          refine wpAnyH_take (i := 10) (v := .agg (hc r.id)) rfl (by kernel_rfl) (by kernel_rfl) (by kernel_rfl) (fun _ _ _ h => h) (.inl ⟨by rfl, fun W _ => by go_simp⟩) hH ?_
          change wpAnyH _ _ _ _ _ _ _ (Act.put _ (some 103) _) _
          simp only [Act.put, List.setIfInBounds_toArray, List.set_cons_zero, List.set_cons_succ]
          refine wpAnyH_take (i := 11) (v := vp4) rfl (by kernel_rfl) (by kernel_rfl) (by kernel_rfl) (fun _ _ _ h => h) (.inl ⟨by rfl, fun W _ => by go_simp⟩) hH ?_
          change wpAnyH _ _ _ _ _ _ _ (Act.put _ (some 104) _) _
          simp only [Act.put, List.setIfInBounds_toArray, List.set_cons_zero, List.set_cons_succ]
          refine wpAnyH_take (i := 12) (v := vm4) rfl (by kernel_rfl) (by kernel_rfl) (by kernel_rfl) (fun _ _ _ h => h) (.inl ⟨by rfl, fun W _ => by go_simp⟩) hH ?_
          change wpAnyH _ _ _ _ _ _ _ (Act.put _ (some 105) _) _
          simp only [Act.put, List.setIfInBounds_toArray, List.set_cons_zero, List.set_cons_succ]
          refine wpAnyH_take (i := 13) (v := .bool true) rfl (by kernel_rfl) (by kernel_rfl) (by kernel_rfl) (fun _ _ _ h => h) (.inl ⟨by rfl, fun W _ => by go_simp⟩) hH ?_
          change wpAnyH _ _ _ _ _ _ _ (Act.put _ (some 106) _) _
          simp only [Act.put, List.setIfInBounds_toArray, List.set_cons_zero, List.set_cons_succ]
          refine wpAnyH_ready (rs := [15]) (by kernel_rfl) (by simp) (AllReadyH.cons rfl (fun K1 hK1 => ?_) AllReadyH.nil)
          refine stepStoreA A24 (by rfl) _ _ (by rfl) _ (hc r.id) (by rw [hc_size, IDL.out]) (hc_one _) (by rfl) (by rfl) (hc zeros) (by rw [hc_size, zeros_len]) 38 Z13.out.1 ?_
          have H5 := hide (below_setRow hH Z13.out.2 (hc r.id))
          have O5 := hide (OP.out.of_block (fun g hg => setRow_other _ _ _ (hc r.id) (NF.out.1 g hg)))
          have Q5 := hide (OQ.out.of_block (fun g hg => setRow_other _ _ _ (hc r.id) (NF.out.2 g hg)))
          have R5 := hide (setRow_heap _ _ _ (hc r.id) _ _ Z13.out.1)
          refine hK1.out _ _ H5.out (fun hH => ?_)
          clear hK1
          change wpAnyH _ _ _ _ _ _ _ (Act.put _ none _) _
          simp only [Act.put]
          refine wpAnyH_take (i := 16) (v := vp4) rfl (by kernel_rfl) (by kernel_rfl) (by kernel_rfl) (fun _ _ _ h => h) (.inl ⟨by rfl, fun W _ => by go_simp⟩) hH ?_
          change wpAnyH _ _ _ _ _ _ _ (Act.put _ (some 14) _) _
          simp only [Act.put, List.setIfInBounds_toArray, List.set_cons_zero, List.set_cons_succ]
          refine wpAnyH_take (i := 17) (v := vm4) rfl (by kernel_rfl) (by kernel_rfl) (by kernel_rfl) (fun _ _ _ h => h) (.inl ⟨by rfl, fun W _ => by go_simp⟩) hH ?_
          change wpAnyH _ _ _ _ _ _ _ (Act.put _ (some 15) _) _
          simp only [Act.put, List.setIfInBounds_toArray, List.set_cons_zero, List.set_cons_succ]
          refine wpAnyH_take (i := 18) (v := .bool true) rfl (by kernel_rfl) (by kernel_rfl) (by kernel_rfl) (fun _ _ _ h => h) (.inl ⟨by rfl, fun W _ => by go_simp⟩) hH ?_
          change wpAnyH _ _ _ _ _ _ _ (Act.put _ (some 16) _) _
          simp only [Act.put, List.setIfInBounds_toArray, List.set_cons_zero, List.set_cons_succ]
          refine wpAnyH_done (by kernel_rfl) ?_ _
          go_wp2_with fail
          go_meet
          exact ⟨_, _, _, rfl, rfl, rfl, rfl, R5, O5, Q5, H5⟩
      obtain ⟨g13, vp4, vm4, rfl, rfl, rfl, rfl, R13, OP4, OQ4, B12⟩ := hcut
      have R12 := hide ((B12.out.block _ (lt_heap R10.out)).trans R10.out)
      have OP3 := hide (OP2.out.below B12.out)
      have OM3 := hide (OM2.out.below B12.out)
      have E12 := hide (below_next (below_next E9.out B10.out) B12.out)
      have HS := hide (same_any _ _ r.meant wc OM3.out.read OQ4.out.read (by have := RL.out.2; omega))
      obtain ⟨ap1, cp1, rfl⟩ := OP3.out.form
      obtain ⟨am1, cm1, rfl⟩ := OM3.out.form
      obtain ⟨ap4, cp4, rfl⟩ := OP4.out.form
      obtain ⟨am4, cm4, rfl⟩ := OQ4.out.form
      have EP := hide fun W => eqH EH r.id r.id IDL.out IDL.out W
      rw [show (r.id == r.id) = true by simp] at EP
      have hpl : r.places.length ≤ 65536 := RL.out.1
      clear OP2 OM2 B10 B12 E9 I9 V9 P9 I10 V10 P10 HG SL HRR R10 RL OM3 OQ4
      generalize r.places = ps at *
      generalize r.meant = mt at *
      generalize r.id = idr at *
      generalize mt.length = lmt at *
      go_upto_region 17 with (first | refine wpList_loadA A25 rfl _ rfl g10 rfl (hc idr) (by rw [hc_size, IDL.out]) 39 R12.out ?_ | refine wpList_loadA A24 rfl _ rfl g13 rfl (hc idr) (by rw [hc_size, IDL.out]) 38 R13.out ?_ | refine wpList_neq 39 _ _ _ (by rfl) (hc idr) (hc idr) (by rfl) (by rfl) (by rfl) eqg25 true EP.out ?_ | (go_at_call 10; refine HS.out.mono ?_; rintro e w13 ⟨rfl, b13⟩; have OP5 := hide (OP3.out.below b13); have OP6 := hide (OP4.out.below b13); have E13 := hide (below_next E12.out b13); clear b13))
      clear R12 R13 EP HS OP3 OP4 E12
      go_wp2
      go_loopw [148] (fun i wr => ∃ k : Nat, k ≤ ps.length ∧ i = .int .i64 (k : Int) ∧ Hid (OI wr (.slice ap1 ps.length cp1) ps) ∧ Hid (OI wr (.slice ap4 ps.length cp4) ps) ∧ Hid (Below w.heap.size w wr)) (fun i _ => (ps.length - intOf i).toNat)
      case atStart => exact ⟨0, Nat.zero_le _, rfl, OP5, OP6, E13⟩
      case round =>
        clear OP5 OP6 E13
        obtain ⟨k, hk, rfl, o1, o2, eb⟩ := hrel
        by_cases hlt : k < ps.length
        · have h1 : (k : Int) < (ps.length : Int) := by omega
          obtain ⟨gx, cx, ex⟩ := o1.out.base (by omega)
          obtain ⟨gy, cy, ey⟩ := o2.out.base (by omega)
          injection ex with ex1 _ ex3
          injection ey with ey1 _ ey3
          subst ex1
          subst ey1
          have q1 := o1.out.cell k hlt
          have q2 := o2.out.cell k hlt
          generalize ps.getD k 0 = pk at *
          have KK := hide (And.intro (show k + 1 ≤ ps.length by omega) (show ((ps.length : Int) - ((k : Int) + 1)).toNat < ((ps.length : Int) - (k : Int)).toNat by omega))
          go_upto_region 20 with fail
          go_quiet (fail)
          clear q1 q2
          go_wp2
          go_roundw
          case rel =>
            exact ⟨k + 1, KK.out.1, by go_num, o1.out.of_block (fun _ _ => rfl), o2.out.of_block (fun _ _ => rfl), below_drewN eb.out _⟩
          case measure => exact KK.out.2
        · have h1 : ¬ (k : Int) < (ps.length : Int) := by omega
          go_wp2
          go_ret
          exact ⟨rfl, eb.out⟩
end
end Go.Proofs.YthlaibkdcebekaaDoor
