/- The contract of the document's read: a position with parts beneath. -/
import Derived.Test.YthlaibkdcebekaaDoorNzw
namespace Go.Proofs.YthlaibkdcebekaaDoor
open Go.RowKit
open Go.Deep
theorem wpList_eqlU {w : World} {ops : Array Oper} {rest : List Oper} {o : Oper} {a : Act} {Q : Exit → Act → World → Prop} (hgd : o.guard = none) (t : TypeId) (x y : Operand) (t2 : TypeId) (ho : o.op = .binOp .eql t x y t2) (c d : Array Value) (hx : a.eval x = .agg c) (hy : a.eval y = .agg d)
    (hg : Tryd.prog.eqGuardType Tryd.prog.depth t = false) (v : Bool) (hr : ∀ W, (Op.equalIn 10000 t (.agg c) (.agg d)).run Tryd.prog W = .ok v W)
    (h : wpList Tryd.prog ops Q rest (a.put o.dst (.bool v)) w) : wpList Tryd.prog ops Q (o :: rest) a w :=
  wpList_eql t x y t2 ho c d hx hy (by simp [Region.wanted, hgd]) hg v hr h
section
set_option linter.unusedSimpArgs false
set_option maxRecDepth 10000
set_option maxHeartbeats 16000000
theorem dread_inner {B W : World} {n k p b i : Nat} {vb vi vp vm : Value} {bs : List Bool} {is : List (List UInt8)} {ps : List Nat} {ms : List (List UInt8)} (hB : LB B vb bs) (hI : LH B vi is) (hbs : bs.length < 4611686018427387904) (his : is.length < 4611686018427387904) (e : Es B W vp vm ps ms) (hb : b < bs.length) (hi : i ≤ is.length) (hl : bs.getD b false = true) (hn : n ≤ 65536) (hk : k ≤ 16) (hp : p ≤ 131072) (hb1 : ps.length + 2 ^ (k + 1) ≤ 1000000) (hb2 : ms.length + 2 ^ (k + 1) ≤ 1000000) (I1 : DR B n vb vi bs is k (2 * p)) (I2 : DR B n vb vi bs is k (2 * p + 1)) :
    Calls Tryd.prog 25 #[.agg (r8 n vb vi b i vp vm false), .int .i64 ((k + 1 : Nat) : Int), .int .i64 (p : Int)] W fun e w' => DA B W n vb vi bs is (k + 1) p false b i vp vm ps ms e w' := by
  obtain ⟨ab, cb, rfl, _⟩ := hB.form
  obtain ⟨gb, ob, rfl⟩ := hB.base (by omega)
  obtain ⟨ai, ci, rfl⟩ := hI.form
  obtain ⟨ap, cp, rfl⟩ := e.pl.form
  obtain ⟨am, cm, rfl⟩ := e.mt.form
  have D1 := hide (Dm.start e n (.slice (some ⟨gb, ob, none⟩) bs.length cb) (.slice ai is.length ci) b i false)
  have HB := hide (And.intro hb1 hb2)
  have CB := hide fun X (hX : Below B.heap.size B X) => (hB.below hX).cell b hb
  have HI := hide hI
  have h5 : ¬ (bs.length : Int) ≤ (b : Int) := by omega
  have i1 : (b : Int) < (bs.length : Int) := by omega
  have i2 : (0 : Int) ≤ (b : Int) := by omega
  have w1 : IntKind.i64.wrap ((b : Int) + 1) = ((b + 1 : Nat) : Int) := by rw [wrapI _ (by omega) (by omega)]; omega
  have HBI := hide (And.intro hb (And.intro hi (And.intro hl his)))
  have hk0 : (((k + 1 : Nat) : Int) == 0) = false := by rw [beq_eq_false_iff_ne]; omega
  have w2 : IntKind.i64.wrap (((k + 1 : Nat) : Int) - 1) = (k : Int) := by rw [wrapI _ (by omega) (by omega)]; omega
  have w3 : IntKind.i64.wrap (2 * (p : Int)) = ((2 * p : Nat) : Int) := by rw [wrapI _ (by omega) (by omega)]; omega
  have w4 : IntKind.i64.wrap (((2 * p : Nat) : Int) + 1) = ((2 * p + 1 : Nat) : Int) := by rw [wrapI _ (by omega) (by omega)]; omega
  have e2 : 2 ^ (k + 1) = 2 ^ k + 2 ^ k := by rw [Nat.pow_succ]; omega
  have HE2 := hide e2
  have HW := hide fun W => rwidth_any n k (by omega) (by omega) W
  have H1 := hide I1
  have H2 := hide I2
  have DT := hide fun wr1 b1 i1 id1 ps1 ms1 wr2 b2 i2 id2 ps2 ms2 h1 hw h2 => DO.two (bs := bs) (is := is) (n := n) (k := k) (p := p) (b := b) (i := i) (ps := ps) (ms := ms) (wr1 := wr1) (b1 := b1) (i1 := i1) (id1 := id1) (ps1 := ps1) (ms1 := ms1) (wr2 := wr2) (b2 := b2) (i2 := i2) (id2 := id2) (ps2 := ps2) (ms2 := ms2) hb hl h1 hw h2
  have DN := hide fun wr1 b1 i1 id1 ps1 ms1 h1 hw => DO.one (bs := bs) (is := is) (n := n) (k := k) (p := p) (b := b) (i := i) (ps := ps) (ms := ms) (wr1 := wr1) (b1 := b1) (i1 := i1) (id1 := id1) (ps1 := ps1) (ms1 := ms1) hb hl h1 hw
  have hpw : Hid (0 < 2 ^ k) := Nat.pos_of_ne_zero (by simp)
  generalize hgg : DA B W n (.slice (some ⟨gb, ob, none⟩) bs.length cb) (.slice ai is.length ci) bs is (k + 1) p false b i (.slice ap ps.length cp) (.slice am ms.length cm) ps ms = GG
  have HG := hide hgg
  clear hgg hB hI hbs his e hb hi hb1 hb2 I1 I2 e2 hn hk hp
  rw [hl] at CB
  clear hl
  generalize hqq : 2 * p = q at *
  clear hqq
  generalize hq1 : q + 1 = q1 at *
  clear hq1
  generalize hkk : k + 1 = k1 at *
  have HKK := hide hkk
  clear hkk
  generalize hb1 : b + 1 = b1 at *
  have HB1 := hide hb1
  clear hb1
  go_enter Tryd.func25, Tryd.ntmps25
  go_upto_region 1 with (first | refine wpList_boxA rfl _ rfl (r8 n (.slice (some ⟨gb, ob, none⟩) bs.length cb) (.slice ai is.length ci) b i (.slice ap ps.length cp) (.slice am ms.length cm) false) rfl ?_ | refine wpList_allocA A8 rfl rfl ?_ | refine wpList_allocA A24 rfl rfl ?_)
  generalize W.alloc (.cells (r8 n (.slice (some ⟨gb, ob, none⟩) bs.length cb) (.slice ai is.length ci) b i (.slice ap ps.length cp) (.slice am ms.length cm) false) 68) = Wa at *
  generalize Wa.alloc (.cells z8 68) = Wb at *
  generalize Wb.alloc (.cells (hc zeros) 38) = W1 at *
  generalize W.heap.size = g3 at *
  generalize Wa.heap.size = g6 at *
  generalize Wb.heap.size = g7 at *
  have x1 : W1.cell? ⟨g3, 1, none⟩ = some (.slice (some ⟨gb, ob, none⟩) bs.length cb) := D1.out.c 1 (by decide)
  have x3 : W1.cell? ⟨g3, 3, none⟩ = some (.int .i64 (b : Int)) := D1.out.c 3 (by decide)
  have x7 : W1.cell? ⟨g3, 7, none⟩ = some (.bool false) := D1.out.c 7 (by decide)
  have f3 := D1.out.f 3
  have cb1 := CB.out W1 D1.out.bel
  have D2 := hide (D1.out.setB b1)
  go_upto_region 6 with fail
  clear x1 x3 x7 f3 D1 cb1 h5 i1 i2 w1 CB
  generalize W1.setCell ⟨g3, 3, none⟩ (.int .i64 (b1 : Int)) = W2 at *
  go_upto_region 16 with fail
  have HC1 := hide (H1.out (.slice ap ps.length cp) (.slice am ms.length cm) b1 i ps ms false W2 D2.out.toEs (by have := HB1.out; have := HBI.out.1; omega) HBI.out.2.1 (by have := hpw.out; have := HE2.out; have := HB.out.1; omega) (by have := hpw.out; have := HE2.out; have := HB.out.2; omega))
  go_upto_region 17 with (first | refine wpList_loadA A8 rfl _ rfl g3 rfl (r8 n (.slice (some ⟨gb, ob, none⟩) bs.length cb) (.slice ai is.length ci) b1 i (.slice ap ps.length cp) (.slice am ms.length cm) false) rfl 68 D2.out.r3 ?_ | (go_at_call 25; refine HC1.out.mono ?_; rintro e w4 ⟨b4, i4, vp4, vm4, wr4, id4, ps4, ms4, rfl, l4, es4, on4, hb4, hi4, hp4, hm4, do4⟩; obtain ⟨ap4, cp4, rfl⟩ := es4.pl.form; obtain ⟨am4, cm4, rfl⟩ := es4.mt.form; have LL := hide (D2.out.laid on4 es4 b4 i4 wr4 id4); have L4 := hide l4; have Q4 := hide (And.intro hb4 (And.intro hi4 (And.intro hp4 (And.intro hm4 do4)))); clear l4 es4 on4 hb4 hi4 hp4 hm4 do4) | refine wpList_allocA A24 rfl rfl ?_ | refine wpList_storeA A8 rfl _ _ rfl g3 (r8 n (.slice (some ⟨gb, ob, none⟩) bs.length cb) (.slice ai is.length ci) b4 i4 (.slice ap4 ps4.length cp4) (.slice am4 ms4.length cm4) wr4) rfl (r8_one _ _ _ _ rfl rfl rfl rfl) rfl rfl (r8 n (.slice (some ⟨gb, ob, none⟩) bs.length cb) (.slice ai is.length ci) b1 i (.slice ap ps.length cp) (.slice am ms.length cm) false) rfl 68 LL.out.2.1 ?_ | refine wpList_storeA A24 rfl _ _ rfl w4.heap.size (hc id4) (by rw [hc_size, L4.out]) (hc_one _) rfl rfl (hc zeros) (by rw [hc_size, zeros_len]) 38 LL.out.2.2.1 ?_)
  simp only [Act.put, List.setIfInBounds_toArray, List.set_cons_zero, List.set_cons_succ]
  generalize ((w4.alloc (.cells (hc zeros) 38)).setRow g3 (r8 n (.slice (some ⟨gb, ob, none⟩) bs.length cb) (.slice ai is.length ci) b4 i4 (.slice ap4 ps4.length cp4) (.slice am4 ms4.length cm4) wr4)).setRow w4.heap.size (hc id4) = W6 at *
  obtain ⟨d6, -, -, r6, ne6⟩ := LL.out
  have D6 := hide d6
  have R6 := hide r6
  have N6 := hide ne6
  clear d6 r6 ne6 LL D2 HC1
  generalize w4.heap.size = g10 at *
  have x0 : W6.cell? ⟨g3, 0, none⟩ = some (.int .i64 (n : Int)) := D6.out.c 0 (by decide)
  by_cases hsec : q1 < wdt n k
  · have h7 : ¬ ((wdt n k : Nat) : Int) ≤ (q1 : Int) := by omega
    have HS := hide hsec
    clear hsec DN
    have HC2 := hide (H2.out (.slice ap4 ps4.length cp4) (.slice am4 ms4.length cm4) b4 i4 ps4 ms4 wr4 W6 D6.out.toEs Q4.out.1 Q4.out.2.1 (by have := Q4.out.2.2.1; have := HE2.out; have := HB.out.1; omega) (by have := Q4.out.2.2.2.1; have := HE2.out; have := HB.out.2; omega))
    go_upto_region 20 with (first | (go_at_call 38; refine (HW.out _).mono ?_; rintro e w7 ⟨rfl, hww⟩; subst w7) | refine wpList_loadA A8 rfl _ rfl g3 rfl (r8 n (.slice (some ⟨gb, ob, none⟩) bs.length cb) (.slice ai is.length ci) b4 i4 (.slice ap4 ps4.length cp4) (.slice am4 ms4.length cm4) wr4) rfl 68 D6.out.r3 ?_ | (go_at_call 25; refine HC2.out.mono ?_; rintro e w8 ⟨b8, i8, vp8, vm8, wr8, id8, ps8, ms8, rfl, l8, es8, on8, hb8, hi8, hp8, hm8, do8⟩; obtain ⟨ap8, cp8, rfl⟩ := es8.pl.form; obtain ⟨am8, cm8, rfl⟩ := es8.mt.form; have LL := hide (D6.out.laid on8 es8 b8 i8 wr8 id8); have L8 := hide l8; have K10 := hide (on8.keep R6.out N6.out.2.2.2.1 N6.out.2.2.2.2); have NP := hide (And.intro (on8.na.not (lt_heap R6.out) N6.out.2.2.2.1) (on8.nb.not (lt_heap R6.out) N6.out.2.2.2.2)); have Q8 := hide (And.intro hb8 (And.intro hi8 (And.intro hp8 (And.intro hm8 do8)))); clear l8 es8 on8 hb8 hi8 hp8 hm8 do8) | refine wpList_allocA A24 rfl rfl ?_ | refine wpList_storeA A8 rfl _ _ rfl g3 (r8 n (.slice (some ⟨gb, ob, none⟩) bs.length cb) (.slice ai is.length ci) b8 i8 (.slice ap8 ps8.length cp8) (.slice am8 ms8.length cm8) wr8) rfl (r8_one _ _ _ _ rfl rfl rfl rfl) rfl rfl (r8 n (.slice (some ⟨gb, ob, none⟩) bs.length cb) (.slice ai is.length ci) b4 i4 (.slice ap4 ps4.length cp4) (.slice am4 ms4.length cm4) wr4) rfl 68 LL.out.2.1 ?_ | refine wpList_storeA A24 rfl _ _ rfl w8.heap.size (hc id8) (by rw [hc_size, L8.out]) (hc_one _) rfl rfl (hc zeros) (by rw [hc_size, zeros_len]) 38 LL.out.2.2.1 ?_)
    simp only [Act.put, List.setIfInBounds_toArray, List.set_cons_zero, List.set_cons_succ]
    have K11 : Hid ((((w8.alloc (.cells (hc zeros) 38)).setRow g3 (r8 n (.slice (some ⟨gb, ob, none⟩) bs.length cb) (.slice ai is.length ci) b8 i8 (.slice ap8 ps8.length cp8) (.slice am8 ms8.length cm8) wr8)).setRow w8.heap.size (hc id8)).heap[g10]? = some (.cells (hc id4) 38 (0, 0))) := by
      show _ = _
      rw [setRow_other _ _ _ _ (by have := lt_heap K10.out; omega), setRow_other _ _ _ _ N6.out.1, Below.heap_alloc _ _ _ (by have := lt_heap K10.out; omega)]
      exact K10.out
    generalize ((w8.alloc (.cells (hc zeros) 38)).setRow g3 (r8 n (.slice (some ⟨gb, ob, none⟩) bs.length cb) (.slice ai is.length ci) b8 i8 (.slice ap8 ps8.length cp8) (.slice am8 ms8.length cm8) wr8)).setRow w8.heap.size (hc id8) = W8 at *
    obtain ⟨d8, -, -, r8', ne8⟩ := LL.out
    have D8 := hide d8
    have R8x := hide r8'
    have N8 := hide ne8
    clear d8 r8' ne8 LL D6 R6 K10 HC2 x0
    generalize w8.heap.size = g11 at *
    have DD := hide (DT.out wr4 b4 i4 id4 ps4 ms4 wr8 b8 i8 id8 ps8 ms8 Q4.out.2.2.2.2 HS.out Q8.out.2.2.2.2)
    have E6 := hide (eqH ER id4 id8 L4.out L8.out)
    have HQ : Hid (ps8.length ≤ ps.length + 2 ^ k1 ∧ ms8.length ≤ ms.length + 2 ^ k1) := ⟨by have := Q4.out.2.2.1; have := Q8.out.2.2.1; have := HE2.out; omega, by have := Q4.out.2.2.2.1; have := Q8.out.2.2.2.1; have := HE2.out; omega⟩
    clear DT H1 H2
    by_cases hAC : id4 = id8
    · rw [show (id4 == id8) = true by rw [beq_iff_eq]; exact hAC] at E6 DD
      clear hAC
      rw [Bool.or_true] at DD
      have x7 : W8.cell? ⟨g3, 7, none⟩ = some (.bool wr8) := D8.out.c 7 (by decide)
      have f7 := D8.out.f 7
      have D9 := hide (D8.out.setW true)
      have Z10 := hide ((Below.heap_setCell W8 ⟨g3, 7, none⟩ (.bool true) g10 N6.out.1).trans K11.out)
      have Z11 := hide ((Below.heap_setCell W8 ⟨g3, 7, none⟩ (.bool true) g11 N8.out.1).trans R8x.out)
      go_upto_region 22 with (first | (refine wpList_loadA A24 rfl (.tmp 10) rfl g10 rfl (hc id4) (by rw [hc_size, L4.out]) 38 K11.out ?_; simp only [Act.put, List.setIfInBounds_toArray, List.set_cons_zero, List.set_cons_succ]) | (refine wpList_loadA A24 rfl (.tmp 11) rfl g11 rfl (hc id8) (by rw [hc_size, L8.out]) 38 R8x.out ?_; simp only [Act.put, List.setIfInBounds_toArray, List.set_cons_zero, List.set_cons_succ]) | refine wpList_eqlU rfl 38 (.tmp 112) (.tmp 113) _ rfl (hc id4) (hc id8) rfl rfl eqg24 true E6.out ?_)
      clear x7 f7 D8 K11 R8x
      generalize W8.setCell ⟨g3, 7, none⟩ (.bool true) = WX at *
      have DX := D9
      clear D9
      have DXd := hide (DX.out.next (Below.refl _ _).drew)
      have QA : Hid (WX.drew.heap[g10]? = some (.cells (hc id4) 38 (0, 0))) := Z10.out
      have QB : Hid (WX.drew.heap[g11]? = some (.cells (hc id8) 38 (0, 0))) := Z11.out
      have P1 := hide (rpair_any id4 id8 L4.out L8.out WX.drew)
      have LP := hide (pr_len id4 id8)
      generalize pr id4 id8 = Y at *
      refine wp_region_held_drew (S := fun W => W.heap[g3]? = some (.cells (r8 n (.slice (some ⟨gb, ob, none⟩) bs.length cb) (.slice ai is.length ci) b8 i8 (.slice ap8 ps8.length cp8) (.slice am8 ms8.length cm8) true) 68 (0, 0)) ∧ W.heap[g10]? = some (.cells (hc id4) 38 (0, 0)) ∧ W.heap[g11]? = some (.cells (hc id8) 38 (0, 0))) (by kernel_rfl) ⟨DX.out.r3, Z10.out, Z11.out⟩ (fun hH => ?_)
      refine wpAnyH_take (i := 0) (v := .agg (r8 n (.slice (some ⟨gb, ob, none⟩) bs.length cb) (.slice ai is.length ci) b8 i8 (.slice ap8 ps8.length cp8) (.slice am8 ms8.length cm8) true)) rfl (by kernel_rfl) (by kernel_rfl) (by kernel_rfl) (fun _ _ _ h => h) (yl_load (by rfl) _ (by rfl) _ (r8 n (.slice (some ⟨gb, ob, none⟩) bs.length cb) (.slice ai is.length ci) b8 i8 (.slice ap8 ps8.length cp8) (.slice am8 ms8.length cm8) true) (by rfl) (fun W hS => ld_row A8 rfl hS.1)) hH ?_
      change wpAnyH _ _ _ _ _ _ _ (Act.put _ (some 116) _) _
      simp only [Act.put, List.setIfInBounds_toArray, List.set_cons_zero, List.set_cons_succ]
      refine wpAnyH_take (i := 1) (v := .agg (hc id4)) rfl (by kernel_rfl) (by kernel_rfl) (by kernel_rfl) (fun _ _ _ h => h) (yl_load (by rfl) _ (by rfl) _ (hc id4) (by rfl) (fun W hS => ld_row A24 (by rw [hc_size, L4.out]) hS.2.1)) hH ?_
      change wpAnyH _ _ _ _ _ _ _ (Act.put _ (some 117) _) _
      simp only [Act.put, List.setIfInBounds_toArray, List.set_cons_zero, List.set_cons_succ]
      refine wpAnyH_take (i := 2) (v := .agg (hc id8)) rfl (by kernel_rfl) (by kernel_rfl) (by kernel_rfl) (fun _ _ _ h => h) (yl_load (by rfl) _ (by rfl) _ (hc id8) (by rfl) (fun W hS => ld_row A24 (by rw [hc_size, L8.out]) hS.2.2)) hH ?_
      change wpAnyH _ _ _ _ _ _ _ (Act.put _ (some 118) _) _
      simp only [Act.put, List.setIfInBounds_toArray, List.set_cons_zero, List.set_cons_succ]
      refine wpAnyH_ready (rs := [3]) (by kernel_rfl) (by simp) (AllReadyH.cons rfl (fun K1 hK1 => ?_) AllReadyH.nil)
      go_simp
      refine P1.out.mono ?_
      rintro e w9 ⟨rfl, be9⟩
      have D9 := hide (DXd.out.next be9)
      have A9 := hide ((be9.block _ (lt_heap QA.out)).trans QA.out)
      have B9 := hide ((be9.block _ (lt_heap QB.out)).trans QB.out)
      clear be9
      have HF := hide (D9.out.half (r8 n (.slice (some ⟨gb, ob, none⟩) bs.length cb) (.slice ai is.length ci) b8 i8 (.slice ap8 ps8.length cp8) (.slice am8 ms8.length cm8) true))
      have A10 := hide ((setRow_other w9 g6 g10 (r8 n (.slice (some ⟨gb, ob, none⟩) bs.length cb) (.slice ai is.length ci) b8 i8 (.slice ap8 ps8.length cp8) (.slice am8 ms8.length cm8) true) N6.out.2.1).trans A9.out)
      have B10 := hide ((setRow_other w9 g6 g11 (r8 n (.slice (some ⟨gb, ob, none⟩) bs.length cb) (.slice ai is.length ci) b8 i8 (.slice ap8 ps8.length cp8) (.slice am8 ms8.length cm8) true) N8.out.2.1).trans B9.out)
      have C10 := hide ((setRow_other w9 g6 g3 (r8 n (.slice (some ⟨gb, ob, none⟩) bs.length cb) (.slice ai is.length ci) b8 i8 (.slice ap8 ps8.length cp8) (.slice am8 ms8.length cm8) true) D9.out.n36).trans D9.out.r3)
      refine hK1.out _ _ ⟨D9.out.r3, A9.out, B9.out⟩ (fun hH => ?_)
      clear hK1
      refine wpAnyH_ready (rs := [4]) (by kernel_rfl) (by simp) (AllReadyH.cons rfl (fun K1 hK1 => ?_) AllReadyH.nil)
      refine stepStoreA A8 (by rfl) _ _ (by rfl) g6 (r8 n (.slice (some ⟨gb, ob, none⟩) bs.length cb) (.slice ai is.length ci) b8 i8 (.slice ap8 ps8.length cp8) (.slice am8 ms8.length cm8) true) rfl (r8_one _ _ _ _ rfl rfl rfl rfl) (by rfl) (by rfl) z8 rfl 68 D9.out.r6 ?_
      refine hK1.out _ _ ⟨C10.out, A10.out, B10.out⟩ (fun hH => ?_)
      clear hK1
      have A11 := hide ((setRow_other (w9.setRow g6 (r8 n (.slice (some ⟨gb, ob, none⟩) bs.length cb) (.slice ai is.length ci) b8 i8 (.slice ap8 ps8.length cp8) (.slice am8 ms8.length cm8) true)) g7 g10 (hc Y) N6.out.2.2.1).trans A10.out)
      have B11 := hide ((setRow_other (w9.setRow g6 (r8 n (.slice (some ⟨gb, ob, none⟩) bs.length cb) (.slice ai is.length ci) b8 i8 (.slice ap8 ps8.length cp8) (.slice am8 ms8.length cm8) true)) g7 g11 (hc Y) N8.out.2.2.1).trans B10.out)
      have C11 := hide ((setRow_other (w9.setRow g6 (r8 n (.slice (some ⟨gb, ob, none⟩) bs.length cb) (.slice ai is.length ci) b8 i8 (.slice ap8 ps8.length cp8) (.slice am8 ms8.length cm8) true)) g7 g3 (hc Y) D9.out.n37).trans C10.out)
      refine wpAnyH_ready (rs := [5]) (by kernel_rfl) (by simp) (AllReadyH.cons rfl (fun K1 hK1 => ?_) AllReadyH.nil)
      refine stepStoreA A24 (by rfl) _ _ (by rfl) g7 (hc Y) (by rw [hc_size, LP.out]) (hc_one _) (by rfl) (by rfl) (hc zeros) (by rw [hc_size, zeros_len]) 38 HF.out.r7 ?_
      refine hK1.out _ _ ⟨C11.out, A11.out, B11.out⟩ (fun hH => ?_)
      clear hK1
      refine wpAnyH_done (by kernel_rfl) ?_ _
      obtain ⟨e6, e7, es, on⟩ := HF.out.fin Y
      go_wp2
      refine bodyPost_ret (v := .tuple #[.agg (r8 n (.slice (some ⟨gb, ob, none⟩) bs.length cb) (.slice ai is.length ci) b8 i8 (.slice ap8 ps8.length cp8) (.slice am8 ms8.length cm8) true), .agg (hc Y)]) (resAC A8 A24 Tryd.results25 _ _ g6 g7 68 38 _ _ rfl (by rw [hc_size, LP.out]) rfl e6 rfl e7) rfl ?_
      rw [← HG.out]
      exact ⟨_, _, _, _, _, _, _, _, rfl, LP.out, es, on, Q8.out.1, Q8.out.2.1, HQ.out.1, HQ.out.2, DD.out⟩
    · rw [show (id4 == id8) = false by rw [beq_eq_false_iff_ne]; exact hAC] at E6 DD
      clear hAC
      rw [Bool.or_false] at DD
      go_upto_region 22 with (first | (refine wpList_loadA A24 rfl (.tmp 10) rfl g10 rfl (hc id4) (by rw [hc_size, L4.out]) 38 K11.out ?_; simp only [Act.put, List.setIfInBounds_toArray, List.set_cons_zero, List.set_cons_succ]) | (refine wpList_loadA A24 rfl (.tmp 11) rfl g11 rfl (hc id8) (by rw [hc_size, L8.out]) 38 R8x.out ?_; simp only [Act.put, List.setIfInBounds_toArray, List.set_cons_zero, List.set_cons_succ]) | refine wpList_eqlU rfl 38 (.tmp 112) (.tmp 113) _ rfl (hc id4) (hc id8) rfl rfl eqg24 false E6.out ?_)
      have Z10 := K11
      have Z11 := R8x
      have DX := D8
      clear D8 K11 R8x
      generalize W8 = WX at *
      have DXd := hide (DX.out.next (Below.refl _ _).drew)
      have QA : Hid (WX.drew.heap[g10]? = some (.cells (hc id4) 38 (0, 0))) := Z10.out
      have QB : Hid (WX.drew.heap[g11]? = some (.cells (hc id8) 38 (0, 0))) := Z11.out
      have P1 := hide (rpair_any id4 id8 L4.out L8.out WX.drew)
      have LP := hide (pr_len id4 id8)
      generalize pr id4 id8 = Y at *
      refine wp_region_held_drew (S := fun W => W.heap[g3]? = some (.cells (r8 n (.slice (some ⟨gb, ob, none⟩) bs.length cb) (.slice ai is.length ci) b8 i8 (.slice ap8 ps8.length cp8) (.slice am8 ms8.length cm8) wr8) 68 (0, 0)) ∧ W.heap[g10]? = some (.cells (hc id4) 38 (0, 0)) ∧ W.heap[g11]? = some (.cells (hc id8) 38 (0, 0))) (by kernel_rfl) ⟨DX.out.r3, Z10.out, Z11.out⟩ (fun hH => ?_)
      refine wpAnyH_take (i := 0) (v := .agg (r8 n (.slice (some ⟨gb, ob, none⟩) bs.length cb) (.slice ai is.length ci) b8 i8 (.slice ap8 ps8.length cp8) (.slice am8 ms8.length cm8) wr8)) rfl (by kernel_rfl) (by kernel_rfl) (by kernel_rfl) (fun _ _ _ h => h) (yl_load (by rfl) _ (by rfl) _ (r8 n (.slice (some ⟨gb, ob, none⟩) bs.length cb) (.slice ai is.length ci) b8 i8 (.slice ap8 ps8.length cp8) (.slice am8 ms8.length cm8) wr8) (by rfl) (fun W hS => ld_row A8 rfl hS.1)) hH ?_
      change wpAnyH _ _ _ _ _ _ _ (Act.put _ (some 116) _) _
      simp only [Act.put, List.setIfInBounds_toArray, List.set_cons_zero, List.set_cons_succ]
      refine wpAnyH_take (i := 1) (v := .agg (hc id4)) rfl (by kernel_rfl) (by kernel_rfl) (by kernel_rfl) (fun _ _ _ h => h) (yl_load (by rfl) _ (by rfl) _ (hc id4) (by rfl) (fun W hS => ld_row A24 (by rw [hc_size, L4.out]) hS.2.1)) hH ?_
      change wpAnyH _ _ _ _ _ _ _ (Act.put _ (some 117) _) _
      simp only [Act.put, List.setIfInBounds_toArray, List.set_cons_zero, List.set_cons_succ]
      refine wpAnyH_take (i := 2) (v := .agg (hc id8)) rfl (by kernel_rfl) (by kernel_rfl) (by kernel_rfl) (fun _ _ _ h => h) (yl_load (by rfl) _ (by rfl) _ (hc id8) (by rfl) (fun W hS => ld_row A24 (by rw [hc_size, L8.out]) hS.2.2)) hH ?_
      change wpAnyH _ _ _ _ _ _ _ (Act.put _ (some 118) _) _
      simp only [Act.put, List.setIfInBounds_toArray, List.set_cons_zero, List.set_cons_succ]
      refine wpAnyH_ready (rs := [3]) (by kernel_rfl) (by simp) (AllReadyH.cons rfl (fun K1 hK1 => ?_) AllReadyH.nil)
      go_simp
      refine P1.out.mono ?_
      rintro e w9 ⟨rfl, be9⟩
      have D9 := hide (DXd.out.next be9)
      have A9 := hide ((be9.block _ (lt_heap QA.out)).trans QA.out)
      have B9 := hide ((be9.block _ (lt_heap QB.out)).trans QB.out)
      clear be9
      have HF := hide (D9.out.half (r8 n (.slice (some ⟨gb, ob, none⟩) bs.length cb) (.slice ai is.length ci) b8 i8 (.slice ap8 ps8.length cp8) (.slice am8 ms8.length cm8) wr8))
      have A10 := hide ((setRow_other w9 g6 g10 (r8 n (.slice (some ⟨gb, ob, none⟩) bs.length cb) (.slice ai is.length ci) b8 i8 (.slice ap8 ps8.length cp8) (.slice am8 ms8.length cm8) wr8) N6.out.2.1).trans A9.out)
      have B10 := hide ((setRow_other w9 g6 g11 (r8 n (.slice (some ⟨gb, ob, none⟩) bs.length cb) (.slice ai is.length ci) b8 i8 (.slice ap8 ps8.length cp8) (.slice am8 ms8.length cm8) wr8) N8.out.2.1).trans B9.out)
      have C10 := hide ((setRow_other w9 g6 g3 (r8 n (.slice (some ⟨gb, ob, none⟩) bs.length cb) (.slice ai is.length ci) b8 i8 (.slice ap8 ps8.length cp8) (.slice am8 ms8.length cm8) wr8) D9.out.n36).trans D9.out.r3)
      refine hK1.out _ _ ⟨D9.out.r3, A9.out, B9.out⟩ (fun hH => ?_)
      clear hK1
      refine wpAnyH_ready (rs := [4]) (by kernel_rfl) (by simp) (AllReadyH.cons rfl (fun K1 hK1 => ?_) AllReadyH.nil)
      refine stepStoreA A8 (by rfl) _ _ (by rfl) g6 (r8 n (.slice (some ⟨gb, ob, none⟩) bs.length cb) (.slice ai is.length ci) b8 i8 (.slice ap8 ps8.length cp8) (.slice am8 ms8.length cm8) wr8) rfl (r8_one _ _ _ _ rfl rfl rfl rfl) (by rfl) (by rfl) z8 rfl 68 D9.out.r6 ?_
      refine hK1.out _ _ ⟨C10.out, A10.out, B10.out⟩ (fun hH => ?_)
      clear hK1
      have A11 := hide ((setRow_other (w9.setRow g6 (r8 n (.slice (some ⟨gb, ob, none⟩) bs.length cb) (.slice ai is.length ci) b8 i8 (.slice ap8 ps8.length cp8) (.slice am8 ms8.length cm8) wr8)) g7 g10 (hc Y) N6.out.2.2.1).trans A10.out)
      have B11 := hide ((setRow_other (w9.setRow g6 (r8 n (.slice (some ⟨gb, ob, none⟩) bs.length cb) (.slice ai is.length ci) b8 i8 (.slice ap8 ps8.length cp8) (.slice am8 ms8.length cm8) wr8)) g7 g11 (hc Y) N8.out.2.2.1).trans B10.out)
      have C11 := hide ((setRow_other (w9.setRow g6 (r8 n (.slice (some ⟨gb, ob, none⟩) bs.length cb) (.slice ai is.length ci) b8 i8 (.slice ap8 ps8.length cp8) (.slice am8 ms8.length cm8) wr8)) g7 g3 (hc Y) D9.out.n37).trans C10.out)
      refine wpAnyH_ready (rs := [5]) (by kernel_rfl) (by simp) (AllReadyH.cons rfl (fun K1 hK1 => ?_) AllReadyH.nil)
      refine stepStoreA A24 (by rfl) _ _ (by rfl) g7 (hc Y) (by rw [hc_size, LP.out]) (hc_one _) (by rfl) (by rfl) (hc zeros) (by rw [hc_size, zeros_len]) 38 HF.out.r7 ?_
      refine hK1.out _ _ ⟨C11.out, A11.out, B11.out⟩ (fun hH => ?_)
      clear hK1
      refine wpAnyH_done (by kernel_rfl) ?_ _
      obtain ⟨e6, e7, es, on⟩ := HF.out.fin Y
      go_wp2
      refine bodyPost_ret (v := .tuple #[.agg (r8 n (.slice (some ⟨gb, ob, none⟩) bs.length cb) (.slice ai is.length ci) b8 i8 (.slice ap8 ps8.length cp8) (.slice am8 ms8.length cm8) wr8), .agg (hc Y)]) (resAC A8 A24 Tryd.results25 _ _ g6 g7 68 38 _ _ rfl (by rw [hc_size, LP.out]) rfl e6 rfl e7) rfl ?_
      rw [← HG.out]
      exact ⟨_, _, _, _, _, _, _, _, rfl, LP.out, es, on, Q8.out.1, Q8.out.2.1, HQ.out.1, HQ.out.2, DD.out⟩
  · have h7 : ((wdt n k : Nat) : Int) ≤ (q1 : Int) := by omega
    have DD := hide (DN.out wr4 b4 i4 id4 ps4 ms4 Q4.out.2.2.2.2 hsec)
    clear hsec DT DN H2
    go_upto_region 18 with (first | (go_at_call 38; refine (HW.out _).mono ?_; rintro e w7 ⟨rfl, hww⟩; subst w7))
    clear x0
    have DX := D6
    clear D6
    generalize W6 = WX at *
    have DXd := hide (DX.out.next (Below.refl _ _).drew)
    have QA : Hid (WX.drew.heap[g10]? = some (.cells (hc id4) 38 (0, 0))) := R6.out
    have QB : Hid (WX.drew.heap[g10]? = some (.cells (hc id4) 38 (0, 0))) := R6.out
    have P1 := hide (rpair_any id4 id4 L4.out L4.out WX.drew)
    have LP := hide (pr_len id4 id4)
    generalize pr id4 id4 = Y at *
    refine wp_region_held_drew (S := fun W => W.heap[g3]? = some (.cells (r8 n (.slice (some ⟨gb, ob, none⟩) bs.length cb) (.slice ai is.length ci) b4 i4 (.slice ap4 ps4.length cp4) (.slice am4 ms4.length cm4) wr4) 68 (0, 0)) ∧ W.heap[g10]? = some (.cells (hc id4) 38 (0, 0)) ∧ W.heap[g10]? = some (.cells (hc id4) 38 (0, 0))) (by kernel_rfl) ⟨DX.out.r3, R6.out, R6.out⟩ (fun hH => ?_)
    refine wpAnyH_take (i := 0) (v := .agg (r8 n (.slice (some ⟨gb, ob, none⟩) bs.length cb) (.slice ai is.length ci) b4 i4 (.slice ap4 ps4.length cp4) (.slice am4 ms4.length cm4) wr4)) rfl (by kernel_rfl) (by kernel_rfl) (by kernel_rfl) (fun _ _ _ h => h) (yl_load (by rfl) _ (by rfl) _ (r8 n (.slice (some ⟨gb, ob, none⟩) bs.length cb) (.slice ai is.length ci) b4 i4 (.slice ap4 ps4.length cp4) (.slice am4 ms4.length cm4) wr4) (by rfl) (fun W hS => ld_row A8 rfl hS.1)) hH ?_
    change wpAnyH _ _ _ _ _ _ _ (Act.put _ (some 98) _) _
    simp only [Act.put, List.setIfInBounds_toArray, List.set_cons_zero, List.set_cons_succ]
    refine wpAnyH_take (i := 1) (v := .agg (hc id4)) rfl (by kernel_rfl) (by kernel_rfl) (by kernel_rfl) (fun _ _ _ h => h) (yl_load (by rfl) _ (by rfl) _ (hc id4) (by rfl) (fun W hS => ld_row A24 (by rw [hc_size, L4.out]) hS.2.1)) hH ?_
    change wpAnyH _ _ _ _ _ _ _ (Act.put _ (some 99) _) _
    simp only [Act.put, List.setIfInBounds_toArray, List.set_cons_zero, List.set_cons_succ]
    refine wpAnyH_take (i := 2) (v := .agg (hc id4)) rfl (by kernel_rfl) (by kernel_rfl) (by kernel_rfl) (fun _ _ _ h => h) (yl_load (by rfl) _ (by rfl) _ (hc id4) (by rfl) (fun W hS => ld_row A24 (by rw [hc_size, L4.out]) hS.2.2)) hH ?_
    change wpAnyH _ _ _ _ _ _ _ (Act.put _ (some 100) _) _
    simp only [Act.put, List.setIfInBounds_toArray, List.set_cons_zero, List.set_cons_succ]
    refine wpAnyH_ready (rs := [3]) (by kernel_rfl) (by simp) (AllReadyH.cons rfl (fun K1 hK1 => ?_) AllReadyH.nil)
    go_simp
    refine P1.out.mono ?_
    rintro e w9 ⟨rfl, be9⟩
    have D9 := hide (DXd.out.next be9)
    have A9 := hide ((be9.block _ (lt_heap QA.out)).trans QA.out)
    have B9 := hide ((be9.block _ (lt_heap QB.out)).trans QB.out)
    clear be9
    have HF := hide (D9.out.half (r8 n (.slice (some ⟨gb, ob, none⟩) bs.length cb) (.slice ai is.length ci) b4 i4 (.slice ap4 ps4.length cp4) (.slice am4 ms4.length cm4) wr4))
    have A10 := hide ((setRow_other w9 g6 g10 (r8 n (.slice (some ⟨gb, ob, none⟩) bs.length cb) (.slice ai is.length ci) b4 i4 (.slice ap4 ps4.length cp4) (.slice am4 ms4.length cm4) wr4) N6.out.2.1).trans A9.out)
    have B10 := hide ((setRow_other w9 g6 g10 (r8 n (.slice (some ⟨gb, ob, none⟩) bs.length cb) (.slice ai is.length ci) b4 i4 (.slice ap4 ps4.length cp4) (.slice am4 ms4.length cm4) wr4) N6.out.2.1).trans B9.out)
    have C10 := hide ((setRow_other w9 g6 g3 (r8 n (.slice (some ⟨gb, ob, none⟩) bs.length cb) (.slice ai is.length ci) b4 i4 (.slice ap4 ps4.length cp4) (.slice am4 ms4.length cm4) wr4) D9.out.n36).trans D9.out.r3)
    refine hK1.out _ _ ⟨D9.out.r3, A9.out, B9.out⟩ (fun hH => ?_)
    clear hK1
    refine wpAnyH_ready (rs := [4]) (by kernel_rfl) (by simp) (AllReadyH.cons rfl (fun K1 hK1 => ?_) AllReadyH.nil)
    refine stepStoreA A8 (by rfl) _ _ (by rfl) g6 (r8 n (.slice (some ⟨gb, ob, none⟩) bs.length cb) (.slice ai is.length ci) b4 i4 (.slice ap4 ps4.length cp4) (.slice am4 ms4.length cm4) wr4) rfl (r8_one _ _ _ _ rfl rfl rfl rfl) (by rfl) (by rfl) z8 rfl 68 D9.out.r6 ?_
    refine hK1.out _ _ ⟨C10.out, A10.out, B10.out⟩ (fun hH => ?_)
    clear hK1
    have A11 := hide ((setRow_other (w9.setRow g6 (r8 n (.slice (some ⟨gb, ob, none⟩) bs.length cb) (.slice ai is.length ci) b4 i4 (.slice ap4 ps4.length cp4) (.slice am4 ms4.length cm4) wr4)) g7 g10 (hc Y) N6.out.2.2.1).trans A10.out)
    have B11 := hide ((setRow_other (w9.setRow g6 (r8 n (.slice (some ⟨gb, ob, none⟩) bs.length cb) (.slice ai is.length ci) b4 i4 (.slice ap4 ps4.length cp4) (.slice am4 ms4.length cm4) wr4)) g7 g10 (hc Y) N6.out.2.2.1).trans B10.out)
    have C11 := hide ((setRow_other (w9.setRow g6 (r8 n (.slice (some ⟨gb, ob, none⟩) bs.length cb) (.slice ai is.length ci) b4 i4 (.slice ap4 ps4.length cp4) (.slice am4 ms4.length cm4) wr4)) g7 g3 (hc Y) D9.out.n37).trans C10.out)
    refine wpAnyH_ready (rs := [5]) (by kernel_rfl) (by simp) (AllReadyH.cons rfl (fun K1 hK1 => ?_) AllReadyH.nil)
    refine stepStoreA A24 (by rfl) _ _ (by rfl) g7 (hc Y) (by rw [hc_size, LP.out]) (hc_one _) (by rfl) (by rfl) (hc zeros) (by rw [hc_size, zeros_len]) 38 HF.out.r7 ?_
    refine hK1.out _ _ ⟨C11.out, A11.out, B11.out⟩ (fun hH => ?_)
    clear hK1
    refine wpAnyH_done (by kernel_rfl) ?_ _
    obtain ⟨e6, e7, es, on⟩ := HF.out.fin Y
    go_wp2
    refine bodyPost_ret (v := .tuple #[.agg (r8 n (.slice (some ⟨gb, ob, none⟩) bs.length cb) (.slice ai is.length ci) b4 i4 (.slice ap4 ps4.length cp4) (.slice am4 ms4.length cm4) wr4), .agg (hc Y)]) (resAC A8 A24 Tryd.results25 _ _ g6 g7 68 38 _ _ rfl (by rw [hc_size, LP.out]) rfl e6 rfl e7) rfl ?_
    rw [← HG.out]
    exact ⟨_, _, _, _, _, _, _, _, rfl, LP.out, es, on, Q4.out.1, Q4.out.2.1, by have := hpw.out; have := Q4.out.2.2.1; have := HE2.out; omega, by have := hpw.out; have := Q4.out.2.2.2.1; have := HE2.out; omega, DD.out⟩
end
end Go.Proofs.YthlaibkdcebekaaDoor
