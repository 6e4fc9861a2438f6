/- The contract of readParts. -/
import Derived.Test.YthlaibkdcebekaaDoorNs
namespace Go.Proofs.YthlaibkdcebekaaDoor
open Go.RowKit
open Go.Deep
theorem wpList_loadG6 {t : TypeId} {n : Nat} {z : Array Value} {w : World} {ops : Array Oper} {rest : List Oper} {o : Oper} {a : Act} {Q : Exit → Act → World → Prop} (A : Arr t n z) (x : Operand) (ho : o.op = .load t x) (g : Nat) (hx : a.eval x = .pointer (some ⟨g, 0, none⟩)) (c : Array Value) (hn : c.size = n) (t' : TypeId) (hg : w.heap[g]? = some (.cells c t' (0, 0))) (hw : Region.wanted o (yielded ops a.tmps) = true)
    (h : wpList Tryd.prog ops Q rest (a.put o.dst (.agg c)) w) : wpList Tryd.prog ops Q (o :: rest) a w := by
  refine wpList_step fun K hK => ?_
  rw [if_pos hw]
  unfold Oper.wp execOp
  simp only [ho, hx, Sem.run_bind, ld_row A hn hg, Result.andThen_ok, Sem.run_pure]
  exact hK _ _ h
/-- What stands while a call of the reader runs: its answer's place at block gr. -/
structure Pq (B W : World) (gt gr : Nat) (vp vm : Value) (W' : World) (vp' vm' : Value) : Prop where
  on : On3 gt W W' vp vm vp' vm'
  bel : Below B.heap.size B W'
  res : W'.heap[gr]? = some (.cells (hc zeros) 39 (0, 0))
  new : W.heap.size ≤ gr
  far : B.heap.size ≤ gr
  ne : gr ≠ gt
  np : vp'.ownBlock ≠ some gr
  nm : vm'.ownBlock ≠ some gr
section
variable {B W W1 W2 : World} {gt gr n : Nat} {vb vi vp vm vp1 vm1 vp2 vm2 : Value} {bs : List Bool} {is : List (List UInt8)} {ps : List Nat} {ms : List (List UInt8)}
theorem Pq.start (j : Rr B W gt n vb vi vp vm bs is ps ms) : Pq B W gt W.heap.size vp vm (W.alloc (.cells (hc zeros) 39)) vp vm := by
  have b : Below W.heap.size W (W.alloc (.cells (hc zeros) 39)) := (Below.refl _ _).alloc (Nat.le_refl _) _
  refine ⟨On3.of_below gt b _ _, below_next j.bel b, heap_alloc_last _ _, Nat.le_refl _, j.bel.size, fun e => ?_, fun e => ?_, fun e => ?_⟩
  · have := World.rowIs.lt j.row
    omega
  · have := j.pl.lt _ e
    omega
  · have := j.mt.lt _ e
    omega
theorem Pq.next (q : Pq B W gt gr vp vm W1 vp1 vm1) (b : Below W1.heap.size W1 W2) : Pq B W gt gr vp vm W2 vp1 vm1 :=
  ⟨q.on.trans (On3.of_below gt b _ _), below_next q.bel b, (b.block _ (lt_heap q.res)).trans q.res, q.new, q.far, q.ne, q.np, q.nm⟩
theorem Pq.call (q : Pq B W gt gr vp vm W1 vp1 vm1) (o : On3 gt W1 W2 vp1 vm1 vp2 vm2) (b : Below B.heap.size B W2) : Pq B W gt gr vp vm W2 vp2 vm2 :=
  ⟨q.on.trans o, b, (o.block _ (lt_heap q.res) q.ne q.np q.nm).trans q.res, q.new, q.far, q.ne, o.na.not (lt_heap q.res) q.np, o.nb.not (lt_heap q.res) q.nm⟩
theorem Pq.fin (q : Pq B W gt gr vp vm W1 vp1 vm1) (cs : Array Value) : On3 gt W (W1.setRow gr cs) vp vm vp1 vm1 ∧ Below B.heap.size B (W1.setRow gr cs) :=
  ⟨q.on.setRow q.new cs, below_setRow q.bel q.far cs⟩
theorem Pq.rr (q : Pq B W gt gr vp vm W1 vp1 vm1) (cs : Array Value) (j : Rr B W1 gt n vb vi vp1 vm1 bs is ps ms) : Rr B (W1.setRow gr cs) gt n vb vi vp1 vm1 bs is ps ms :=
  j.kept (below_setRow q.bel q.far cs) (setRow_other _ _ _ _ (Ne.symm q.ne)) (fun _ hg => setRow_other _ _ _ _ (fun e => q.np (hg.trans (congrArg some e)))) (fun _ hg => setRow_other _ _ _ _ (fun e => q.nm (hg.trans (congrArg some e))))
/-- Another block of the caller's stays over a call. -/
theorem On3.keep (o : On3 gt W1 W2 vp1 vm1 vp2 vm2) {g : Nat} {ob : Obj} (h : W1.heap[g]? = some ob) (ne : g ≠ gt) (np : vp1.ownBlock ≠ some g) (nm : vm1.ownBlock ≠ some g) : W2.heap[g]? = some ob :=
  (o.block g (lt_heap h) ne np nm).trans h
end
section
set_option maxRecDepth 10000
set_option maxHeartbeats 4000000
theorem readParts_any {B : World} {gt n : Nat} (hK : Kg B) (hn : n ≤ 65536) (k q : Nat) (hk : k ≤ 16) (hq : q ≤ 262144) (I1 : RR B gt n k q) (I2 : RR B gt n k (q + 1)) : RP B gt n k q := by
  intro vb vi vp vm bs is ps ms W J hb1 hb2
  have KW : Hid (∀ W, Below B.heap.size B W → Kg W) := fun W h => hK.next h
  have e2 : 2 ^ (k + 1) = 2 ^ k + 2 ^ k := by rw [Nat.pow_succ]; omega
  have hpw : 0 < 2 ^ k := Nat.pos_of_ne_zero (by simp)
  have P1 := hide (Pq.start J)
  have J1 := hide (J.next ((Below.refl _ _).alloc (Nat.le_refl _) (.cells (hc zeros) 39)))
  have H1 := hide (I1 vb vi vp vm bs is ps ms _ J1.out (by omega) (by omega))
  have HW := hide fun W => width_any n k (by omega) (by omega) W
  have w1 : IntKind.i64.wrap ((q : Int) + 1) = ((q + 1 : Nat) : Int) := by rw [wrapI _ (by omega) (by omega)]; omega
  have HI2 := hide I2
  have HB := hide (And.intro hb1 hb2)
  have HE2 := hide e2
  clear I1 I2 hK hn hk hq hb1 hb2 e2 J hpw
  generalize hq1 : q + 1 = q1 at *
  generalize hRD : rdP n k q bs is = RDP at *
  unfold rdP at hRD
  rw [hq1] at hRD
  have HQ1 := hide hq1
  clear hq1
  cases hr : rd n k q bs is with
  | none =>
    rw [hr] at hRD H1
    have HR : Hid (RDP = none) := hRD.symm
    clear hRD hr
    go_enter Tryd.func37, Tryd.ntmps37
    go_upto_region 1 with (first | refine wpList_allocA A25 rfl rfl ?_)
    generalize W.alloc (.cells (hc zeros) 39) = W1 at *
    generalize W.heap.size = gr at *
    go_upto_region 3 with (first | (go_at_call 24; refine H1.out.mono ?_; rintro e w2 ⟨vp2, vm2, o2, be2, ra⟩; have ra2 : e = .returned (.tuple #[.agg (hc zeros), .bool false]) := ra; subst ra2; clear ra; have P2 := hide (P1.out.call o2 be2); have P3 := hide (P2.out.next ((Below.refl _ _).alloc (Nat.le_refl _) (.cells (hc zeros) 39))); clear o2 be2) | refine wpList_allocA A25 rfl rfl ?_ | refine wpList_store_newA A25 rfl _ _ rfl _ rfl (hc zeros) (by rw [hc_size, zeros_len]) (hc_one _) rfl rfl ?_)
    generalize w2.alloc (.cells (hc zeros) 39) = W3 at *
    go_wp2_with (first | refine wpList_buildA A25 rfl rfl ?_ | refine wpList_storeA A25 rfl _ _ rfl gr (hc zeros) (by rw [hc_size, zeros_len]) (hc_one _) rfl rfl (hc zeros) (by rw [hc_size, zeros_len]) 39 P3.out.res ?_)
    refine bodyPost_ret (v := .tuple #[.agg (hc zeros), .bool false]) (resAB A25 Tryd.results37 _ _ gr 39 (hc zeros) (by rw [hc_size, zeros_len]) rfl (setRow_heap _ _ _ _ _ _ P3.out.res) _ (by rfl)) rfl ⟨vp2, vm2, (P3.out.fin _).1, (P3.out.fin _).2, ?_⟩
    rw [HR.out]
    exact rfl
  | some a =>
    rw [hr] at hRD H1
    have HL1 := hide (rd_len n k q bs is a hr)
    simp only at hRD
    clear hr
    obtain ⟨A, bsA, isA, psA, msA⟩ := a
    simp only at hRD HL1
    have HRD := hide hRD
    clear hRD
    go_enter Tryd.func37, Tryd.ntmps37
    go_upto_region 1 with (first | refine wpList_allocA A25 rfl rfl ?_)
    generalize W.alloc (.cells (hc zeros) 39) = W1 at *
    generalize W.heap.size = gr at *
    go_upto_region 4 with (first | (go_at_call 24; refine H1.out.mono ?_; rintro e w2 ⟨vp2, vm2, o2, be2, ra⟩; obtain ⟨ra2, ra3, vb2, vi2, j2⟩ := ra; simp only at ra2 ra3 j2; subst ra2; have LA := hide ra3; have P2 := hide (P1.out.call o2 be2); have J2 := hide j2; clear o2 be2 ra3 j2) | refine wpList_allocA A25 rfl rfl ?_ | refine wpList_store_newA A25 rfl _ _ rfl _ rfl (hc A) (by rw [hc_size, LA.out]) (hc_one _) rfl rfl ?_)
    have P3 := hide (P2.out.next ((Below.refl _ _).alloc (Nat.le_refl _) (.cells (hc A) 39)))
    have J3 := hide (J2.out.next ((Below.refl _ _).alloc (Nat.le_refl _) (.cells (hc A) 39)))
    have R3 := hide (heap_alloc_last w2 (.cells (hc A) 39))
    have D3 : Hid (w2.heap.size ≠ gt ∧ vp2.ownBlock ≠ some w2.heap.size ∧ vm2.ownBlock ≠ some w2.heap.size) :=
      ⟨fun e => by have := World.rowIs.lt J2.out.row; omega, fun e => by have := J2.out.pl.lt _ e; omega, fun e => by have := J2.out.mt.lt _ e; omega⟩
    clear P1 P2 J1 J2 H1
    generalize w2.alloc (.cells (hc A) 39) = W3 at *
    generalize w2.heap.size = ga at *
    have x0 := World.rowIs.cell J3.out.row (i := 0) (by decide)
    rw [show rc5 n vb2 vi2 vp2 vm2 0 = .int .i64 (n : Int) from rfl] at x0
    by_cases hsec : q1 < wdt n k
    · have hc5 : ¬ ((wdt n k : Nat) : Int) ≤ (q1 : Int) := by omega
      have HS := hide hsec
      clear hsec
      have HRD2 := HRD
      rw [if_pos HS.out] at HRD2
      clear HRD
      have H2 := hide (HI2.out vb2 vi2 vp2 vm2 bsA isA (ps ++ psA) (ms ++ msA) W3 J3.out (by have := HB.out.1; have := HE2.out; have := HL1.out.1; rw [List.length_append]; omega) (by have := HB.out.2; have := HE2.out; have := HL1.out.2; rw [List.length_append]; omega))
      clear HI2
      cases hr : rd n k q1 bsA isA with
      | none =>
        rw [hr] at HRD2 H2
        have HR : Hid (RDP = none) := HRD2.out.symm
        clear HRD2 hr
        go_upto_region 8 with (first | (go_at_call 34; refine (HW.out _).mono ?_; rintro e w4 ⟨rfl, hww⟩; subst w4) | (go_at_call 24; refine H2.out.mono ?_; rintro e w5 ⟨vp5, vm5, o5, be5, ra⟩; have ra2 : e = .returned (.tuple #[.agg (hc zeros), .bool false]) := ra; subst ra2; clear ra; have P5 := hide (P3.out.call o5 be5); have P6 := hide (P5.out.next ((Below.refl _ _).alloc (Nat.le_refl _) (.cells (hc zeros) 39))); clear o5 be5) | refine wpList_allocA A25 rfl rfl ?_ | refine wpList_store_newA A25 rfl _ _ rfl _ rfl (hc zeros) (by rw [hc_size, zeros_len]) (hc_one _) rfl rfl ?_)
        generalize w5.alloc (.cells (hc zeros) 39) = W6 at *
        go_wp2_with (first | refine wpList_buildA A25 rfl rfl ?_ | refine wpList_storeA A25 rfl _ _ rfl gr (hc zeros) (by rw [hc_size, zeros_len]) (hc_one _) rfl rfl (hc zeros) (by rw [hc_size, zeros_len]) 39 P6.out.res ?_)
        refine bodyPost_ret (v := .tuple #[.agg (hc zeros), .bool false]) (resAB A25 Tryd.results37 _ _ gr 39 (hc zeros) (by rw [hc_size, zeros_len]) rfl (setRow_heap _ _ _ _ _ _ P6.out.res) _ (by rfl)) rfl ⟨vp5, vm5, (P6.out.fin _).1, (P6.out.fin _).2, ?_⟩
        rw [HR.out]
        exact rfl
      | some b =>
        rw [hr] at HRD2 H2
        simp only at HRD2
        clear hr
        obtain ⟨C, bsC, isC, psC, msC⟩ := b
        simp only at HRD2
        go_upto_region 7 with (first | (go_at_call 34; refine (HW.out _).mono ?_; rintro e w4 ⟨rfl, hww⟩; subst w4) | (go_at_call 24; refine H2.out.mono ?_; rintro e w5 ⟨vp5, vm5, o5, be5, ra⟩; obtain ⟨ra2, ra3, vb5, vi5, j5⟩ := ra; simp only at ra2 ra3 j5; subst ra2; have LC := hide ra3; have P5 := hide (P3.out.call o5 be5); have J5 := hide j5; have R5 := hide (o5.keep R3.out D3.out.1 D3.out.2.1 D3.out.2.2); clear o5 be5 ra3 j5) | refine wpList_allocA A25 rfl rfl ?_ | refine wpList_store_newA A25 rfl _ _ rfl _ rfl (hc C) (by rw [hc_size, LC.out]) (hc_one _) rfl rfl ?_)
        have b6 : Below w5.heap.size w5 (w5.alloc (.cells (hc C) 39)) := (Below.refl _ _).alloc (Nat.le_refl _) _
        have P6 := hide (P5.out.next b6)
        have J6 := hide (J5.out.next b6)
        have R6 := hide ((b6.block _ (lt_heap R5.out)).trans R5.out)
        have R7 := hide (heap_alloc_last w5 (.cells (hc C) 39))
        clear b6 P5 J5 R5 P3 J3 R3 x0
        generalize w5.alloc (.cells (hc C) 39) = W6 at *
        generalize w5.heap.size = gc at *
        have E6 := hide (eqH EH A C LA.out LC.out)
        by_cases hAC : A = C
        · rw [if_pos hAC] at HRD2
          have HR : Hid (RDP = none) := HRD2.out.symm
          rw [show (A == C) = true by rw [beq_iff_eq]; exact hAC] at E6
          clear HRD2 hAC
          go_wp2_with (first | refine wpList_loadG6 A25 _ rfl ga rfl (hc A) (by rw [hc_size, LA.out]) 39 R6.out rfl ?_ | refine wpList_loadG6 A25 _ rfl gc rfl (hc C) (by rw [hc_size, LC.out]) 39 R7.out rfl ?_ | refine wpList_eql 39 _ _ _ rfl (hc A) (hc C) rfl rfl rfl eqg25 true E6.out ?_ | refine wpList_buildA A25 rfl rfl ?_ | refine wpList_storeA A25 rfl _ _ rfl gr (hc zeros) (by rw [hc_size, zeros_len]) (hc_one _) rfl rfl (hc zeros) (by rw [hc_size, zeros_len]) 39 P6.out.res ?_)
          refine bodyPost_ret (v := .tuple #[.agg (hc zeros), .bool false]) (resAB A25 Tryd.results37 _ _ gr 39 (hc zeros) (by rw [hc_size, zeros_len]) rfl (setRow_heap _ _ _ _ _ _ P6.out.res) _ (by rfl)) rfl ⟨vp5, vm5, (P6.out.fin _).1, (P6.out.fin _).2, ?_⟩
          rw [HR.out]
          exact rfl
        · rw [if_neg hAC] at HRD2
          have HR : Hid (RDP = _) := HRD2.out.symm
          rw [show (A == C) = false by rw [beq_eq_false_iff_ne]; exact hAC] at E6
          have HP := hide (pair_any A C LA.out LC.out W6 (KW.out _ P6.out.bel))
          have LP := hide (pr_len A C)
          clear HRD2 hAC
          generalize pr A C = X at *
          go_wp2_with (first | refine wpList_loadG6 A25 _ rfl ga rfl (hc A) (by rw [hc_size, LA.out]) 39 R6.out rfl ?_ | refine wpList_loadG6 A25 _ rfl gc rfl (hc C) (by rw [hc_size, LC.out]) 39 R7.out rfl ?_ | refine wpList_eql 39 _ _ _ rfl (hc A) (hc C) rfl rfl rfl eqg25 false E6.out ?_ | (go_at_call 30; refine HP.out.mono ?_; rintro e w8 ⟨rfl, be⟩; have P8 := hide (P6.out.next be); have J8 := hide (J6.out.next be); clear be) | refine wpList_storeA A25 rfl _ _ rfl gr (hc X) (by rw [hc_size, LP.out]) (hc_one _) rfl rfl (hc zeros) (by rw [hc_size, zeros_len]) 39 P8.out.res ?_)
          refine bodyPost_ret (v := .tuple #[.agg (hc X), .bool true]) (resAB A25 Tryd.results37 _ _ gr 39 (hc X) (by rw [hc_size, LP.out]) rfl (setRow_heap _ _ _ _ _ _ P8.out.res) _ (by rfl)) rfl ⟨vp5, vm5, (P8.out.fin _).1, (P8.out.fin _).2, ?_⟩
          rw [HR.out]
          exact ⟨rfl, LP.out, vb5, vi5, by rw [← List.append_assoc, ← List.append_assoc]; exact P8.out.rr _ J8.out⟩
    · have hc5 : ((wdt n k : Nat) : Int) ≤ (q1 : Int) := by omega
      rw [if_neg hsec] at HRD
      have HR : Hid (RDP = _) := HRD.out.symm
      have HP := hide (pair_any A A LA.out LA.out W3 (KW.out _ P3.out.bel))
      have LP := hide (pr_len A A)
      clear HRD hsec HI2
      generalize pr A A = X at *
      go_wp2_with (first | (go_at_call 34; refine (HW.out _).mono ?_; rintro e w4 ⟨rfl, hww⟩; subst w4) | refine wpList_loadG6 A25 _ rfl ga rfl (hc A) (by rw [hc_size, LA.out]) 39 R3.out rfl ?_ | (go_at_call 30; refine HP.out.mono ?_; rintro e w8 ⟨rfl, be⟩; have P8 := hide (P3.out.next be); have J8 := hide (J3.out.next be); clear be) | refine wpList_storeA A25 rfl _ _ rfl gr (hc X) (by rw [hc_size, LP.out]) (hc_one _) rfl rfl (hc zeros) (by rw [hc_size, zeros_len]) 39 P8.out.res ?_)
      refine bodyPost_ret (v := .tuple #[.agg (hc X), .bool true]) (resAB A25 Tryd.results37 _ _ gr 39 (hc X) (by rw [hc_size, LP.out]) rfl (setRow_heap _ _ _ _ _ _ P8.out.res) _ (by rfl)) rfl ⟨vp2, vm2, (P8.out.fin _).1, (P8.out.fin _).2, ?_⟩
      rw [HR.out]
      exact ⟨rfl, LP.out, vb2, vi2, P8.out.rr _ J8.out⟩
end
end Go.Proofs.YthlaibkdcebekaaDoor
