/- Amounts: plus and below: their contracts. play of a block of one coinbase: its contract. -/
import Derived.Test.YtofddbjnncgmlabGreatDoorX37
import Derived.Test.YtofddbjnncgmlabGreatDoorX13
namespace Go.Proofs.YtofddbjnncgmlabGreatDoor
open Go.RowKit
open Go.Deep
open Go.Maps
set_option linter.unusedVariables false
set_option linter.unusedSimpArgs false
theorem AAm : Arr 131 2 #[.int .u64 0, .int .u64 0] := ⟨.inr ⟨_, Tryz.underlying131⟩, by kernel_rfl, fun w => by kernel_rfl, fun w => by kernel_rfl, rfl⟩
section
set_option maxRecDepth 10000
set_option maxHeartbeats 4000000
theorem plus_zero (n : Nat) (hn : n < 18446744073709551616) (w : World) : Calls Tryz.prog 84 #[.agg #[.int .u64 0, .int .u64 0], .int .u64 (n : Int)] w fun e w' => e = .returned (.agg #[.int .u64 0, .int .u64 (n : Int)]) ∧ Below w.heap.size w w' := by
  have hC : ∀ W, (callFunc 120 #[.int .u64 0, .int .u64 (n : Int), .int .u64 0]).run Tryz.prog W = .ok (.value (.tuple #[.int .u64 (n : Int), .int .u64 0])) W := fun W => by
    have := add64_run 0 n 0 (by omega) W
    rw [show (0 + n + 0) = n by omega, Nat.mod_eq_of_lt hn, Nat.div_eq_of_lt hn] at this
    exact this
  have r1 := heap_alloc_last w (.cells #[.int .u64 0, .int .u64 0] 131)
  have b1 := (Below.refl w.heap.size w).alloc (Nat.le_refl _) (.cells #[.int .u64 0, .int .u64 0] 131)
  have s1 : (w.alloc (.cells #[.int .u64 0, .int .u64 0] 131)).heap.size = w.heap.size + 1 := by simp
  have b2 := b1.alloc (by rw [s1]; omega) (.cells #[.int .u64 0, .int .u64 0] 131)
  have R1 := hide ((Below.heap_alloc _ (.cells #[.int .u64 0, .int .u64 0] 131) _ (lt_heap r1)).trans r1)
  have R2 := hide (heap_alloc_last (w.alloc (.cells #[.int .u64 0, .int .u64 0] 131)) (.cells #[.int .u64 0, .int .u64 0] 131))
  have B2 := hide b2
  rw [s1] at R2
  clear r1 b1 b2
  go_enter Tryz.func84, Tryz.ntmps84
  go_upto_region 1 with ((with_reducible refine at_list ?_); first | refine wpList_boxA rfl _ rfl #[.int .u64 0, .int .u64 0] rfl ?_ | refine wpList_allocA AAm rfl rfl ?_)
  try rw [s1]
  clear s1
  generalize (w.alloc (.cells #[.int .u64 0, .int .u64 0] 131)).alloc (.cells #[.int .u64 0, .int .u64 0] 131) = W0 at *
  have c1 : W0.cell? ⟨w.heap.size, 1, none⟩ = some (.int .u64 0) := by rw [cell_of_row _ _ _ _ _ _ R1.out]; rfl
  have c0 : W0.cell? ⟨w.heap.size, 0, none⟩ = some (.int .u64 0) := by rw [cell_of_row _ _ _ _ _ _ R1.out]; rfl
  have w0 : IntKind.u64.wrap 0 = 0 := rfl
  have d0 : W0.cell? ⟨w.heap.size + 1, 0, none⟩ = some (.int .u64 0) := by rw [cell_of_row _ _ _ _ _ _ R2.out]; rfl
  have d1 : W0.cell? ⟨w.heap.size + 1, 1, none⟩ = some (.int .u64 0) := by rw [cell_of_row _ _ _ _ _ _ R2.out]; rfl
  go_upto_region 2 with (simp only [hC])
  have f0 := frozen_of_row W0 (w.heap.size + 1) 0 _ _ R2.out
  have f1 := frozen_of_row W0 (w.heap.size + 1) 1 _ _ R2.out
  go_wp2
  have r5 := heap_setCell_same W0 (w.heap.size + 1) 0 _ _ (.int .u64 0) R2.out
  have r6 := heap_setCell_same _ (w.heap.size + 1) 1 _ _ (.int .u64 (n : Int)) r5
  exact bodyPost_ret (v := .agg #[.int .u64 0, .int .u64 (n : Int)]) (resA AAm Tryz.results84 _ _ (w.heap.size + 1) 131 _ rfl rfl r6) rfl ⟨rfl, (B2.out.setCell (p := ⟨w.heap.size + 1, 0, none⟩) (by show _ ≤ w.heap.size + 1; omega) _).setCell (p := ⟨w.heap.size + 1, 1, none⟩) (by show _ ≤ w.heap.size + 1; omega) _⟩
theorem below_no (a n : Nat) (hn : n ≤ a) (w : World) : Calls Tryz.prog 85 #[.agg #[.int .u64 0, .int .u64 (a : Int)], .int .u64 (n : Int)] w fun e w' => e = .returned (.bool false) ∧ Below w.heap.size w w' := by
  have R1 := hide (heap_alloc_last w (.cells #[.int .u64 0, .int .u64 (a : Int)] 131))
  have B1 := hide ((Below.refl w.heap.size w).alloc (Nat.le_refl _) (.cells #[.int .u64 0, .int .u64 (a : Int)] 131))
  have q1 : decide (a < n) = false := decide_eq_false (by omega)
  go_enter Tryz.func85, Tryz.ntmps85
  go_upto_region 1 with ((with_reducible refine at_list ?_); refine wpList_boxA rfl _ rfl #[.int .u64 0, .int .u64 (a : Int)] rfl ?_)
  generalize w.alloc (.cells #[.int .u64 0, .int .u64 (a : Int)] 131) = W0 at *
  have c1 : W0.cell? ⟨w.heap.size, 1, none⟩ = some (.int .u64 (a : Int)) := by rw [cell_of_row _ _ _ _ _ _ R1.out]; rfl
  have c0 : W0.cell? ⟨w.heap.size, 0, none⟩ = some (.int .u64 0) := by rw [cell_of_row _ _ _ _ _ _ R1.out]; rfl
  go_wp2
  go_ret
  exact ⟨rfl, B1.out⟩
end
end Go.Proofs.YtofddbjnncgmlabGreatDoor
namespace Go.Proofs.YtofddbjnncgmlabGreatDoor
open Go.RowKit
open Go.Deep
open Go.Maps
set_option linter.unusedVariables false
set_option linter.unusedSimpArgs false
/-- .. whose one output may be paid. -/
structure Ok2 (h : Hd) (x : Tq) (k : Nat) (o : Tu) : Prop where
  s : Ok1 h x k
  os : x.m.outs = [o]
  t : x.m.toldE = 0
  f : finB x.m (k : Int) (h.time.toNat : Int) = true
  p : o.val.toNat ≤ 1000000
  r : o.val.toNat ≤ rwd (k : Int)
  l : x.m.idT.length = 32
theorem Ok2.paid {h : Hd} {x : Tq} {k : Nat} {o : Tu} (q : Ok2 h x k o) : x.m.paid = (o.val.toNat, 0) := by
  have := q.p
  rw [Tm.paid, q.os, paidR, if_neg (by omega), paidR, Nat.zero_add]
theorem Dst.base {A B W : World} {gd gc ga gb n m : Nat} {h : Int} {tm : UInt32} {D E : DataW Unit} (c : Dst B W gd gc h tm ga gb n m D E) (b : Below A.heap.size A B) : Dst A W gd gc h tm ga gb n m D E :=
  ⟨c.row, c.mp, c.ct, below_next b c.bel, Nat.le_trans b.size c.bg, Nat.le_trans b.size c.b1, Nat.le_trans b.size c.b2, c.n1, c.n2, c.n3⟩
theorem bldDr (gc : Nat) (h : Int) (tm : UInt32) (ga gb : Nat) (W : World) : (Instr.build 133 #[(0, .pointer (some ⟨gc, 0, none⟩)), (1, .int .i64 h), (2, .int .u32 (tm.toNat : Int)), (3, .map (some ga)), (4, .map (some gb))]).run Tryz.prog W = .ok (.agg (drA gc h tm ga gb)) W := by kernel_rfl
section
set_option maxRecDepth 10000
set_option maxHeartbeats 4000000
theorem play_one {A w : World} {gc bm bc nc mc : Nat} {h : Hd} {k : Nat} {DC EC : DataW Unit} (cs : Cst A w gc bm bc nc mc h.prev (k : Int) DC EC) (hk : k < 2147483647) (v : Value) (x : Tq) (hL : LQ w v [x]) (o : Tu) (ok : Ok2 h x (k + 1) o) (hK : Kg w)
    (e1 : EC.atKey (.string x.m.idT) (.lit (.int .i64 0)) = .lit (.int .i64 0)) :
    Calls Tryz.prog 46 #[.pointer (some ⟨gc, 0, none⟩), .agg (bkA h v), .int .i64 ((k : Int) + 1)] w fun e w' => ∃ gd ga gb, e = .returned (.tuple #[.pointer (some ⟨gd, 0, none⟩), .int .i64 0, .int .i64 0]) ∧ Dst w w' gd gc ((k : Int) + 1) h.time ga gb 1 1 ((DataW.map []).put (.string (⟨x.m.idT, 0, ok.l⟩ : Tp).keyB) (⟨⟨o.val, o.lock, (k : Int) + 1, true⟩, true⟩ : Chg).dat) ((DataW.map []).put (.string x.m.idT) (.lit (.int .i64 1))) := by
  obtain ⟨ao, cap, rfl⟩ := hL.l.form
  obtain ⟨gx, ox, rfl⟩ := hL.l.base (by simp)
  rw [show [x].length = 1 from rfl] at *
  have b1 := (Below.refl w.heap.size w).alloc (Nat.le_refl _) (.cells (bkA h (.slice (some ⟨gx, ox, none⟩) 1 cap)) 30)
  have R1 := hide (heap_alloc_last w (.cells (bkA h (.slice (some ⟨gx, ox, none⟩) 1 cap)) 30))
  have B1 := hide b1
  have HX := hide (fun W (b : Below (w.alloc (.cells (bkA h (.slice (some ⟨gx, ox, none⟩) 1 cap)) 30)).heap.size (w.alloc (.cells (bkA h (.slice (some ⟨gx, ox, none⟩) 1 cap)) 30)) W) => And.intro (hL.below (below_next b1 b)) (And.intro (cs.next (below_next b1 b)) (And.intro (hK.next (below_next b1 b)) ((b.block _ (lt_heap R1.out)).trans R1.out))))
  have HM := hide (fun W l (c : Cst A W gc bm bc nc mc h.prev (k : Int) DC EC) q => mayStand_yes c hk (.slice (some ⟨gx, ox, none⟩) 1 cap) x l ok.s q)
  have RH : Hid (∀ W : World, W.heap[w.heap.size]? = some (.cells (bkA h (.slice (some ⟨gx, ox, none⟩) 1 cap)) 30 (0, 0)) → W.cell? ⟨w.heap.size, 65, none⟩ = some (.int .u32 (h.time.toNat : Int)) ∧ W.cell? ⟨w.heap.size, 68, none⟩ = some (.slice (some ⟨gx, ox, none⟩) 1 cap)) := fun W e => ⟨by have := h.time0 (bkA_head e); rwa [Nat.zero_add] at this, bkA_txs e⟩
  have CN := hide (fun W (l : LQ W (.slice (some ⟨gx, ox, none⟩) 1 cap) [x]) => And.intro (show W.rangeAt gx (ox + 0 * 4) x.cells from l.l.range 0 (by simp)) (l.t x (by simp)))
  have BZ : Hid ((bkA h (.slice (some ⟨gx, ox, none⟩) 1 cap)).size = 69) := bkA_size _ _
  have OK := hide ok
  have E1 := hide e1
  have HPd : Hid (∀ W, x.can W → Calls Tryz.prog 83 #[.agg x.arr] W fun e w' => e = .returned (.tuple #[.int .u64 (o.val.toNat : Int), .int .i64 0]) ∧ Below W.heap.size W w') := fun W c => by
    have := paid_any x.m x.ai x.ci x.ao x.co W c.1 c.2
    rw [ok.paid] at this
    exact this
  have XZ : Hid (x.arr.size = 4) := rfl
  have XO := hide (x.m.one x.ai x.ci x.ao x.co)
  have HRw := hide (fun W => reward_any ((k : Int) + 1) (by omega) (by omega) W)
  have RWl : Hid (rwd ((k : Int) + 1) < 18446744073709551616) := by
    show rwd _ < _
    rw [rwd]
    split
    · omega
    · exact Nat.lt_of_le_of_lt (Nat.div_le_self _ _) (by omega)
  have HPl := hide (fun W => plus_zero (rwd ((k : Int) + 1)) RWl.out W)
  have HBl := hide (fun W => below_no (rwd ((k : Int) + 1)) o.val.toNat (by have := ok.r; rwa [Int.natCast_succ] at this) W)
  have mk := make_none 129 76 135 Tryz.underlying129
  have mk2 := make_none 111 25 3 Tryz.underlying111
  clear b1 hL hK cs e1
  generalize hTM : h.time = TM at *
  generalize bkA h (.slice (some ⟨gx, ox, none⟩) 1 cap) = C at *
  go_enter Tryz.func46, Tryz.ntmps46
  go_upto_region 1 with ((with_reducible refine at_list ?_); refine wpList_boxA rfl _ rfl C rfl ?_)
  generalize w.alloc (.cells C 30) = W0 at *
  have F0 := hide (HX.out _ (Below.refl _ _))
  go_upto_region 4 with (first | (go_at_call 81; refine (HM.out _ F0.out.1 F0.out.2.1 F0.out.2.2.1).mono ?_; rintro e W1 ⟨rfl, be⟩; have D1 := hide be; clear be) | ((with_reducible refine at_list ?_); refine wpList_loadS ABk _ rfl w.heap.size rfl C BZ.out 30 F0.out.2.2.2 (by rfl) ?_))
  have F1 := hide (HX.out _ D1.out)
  have c1 := (RH.out _ F1.out.2.2.2).1
  have O1 := hide (World.ownsMap_made (H := Unit) W1 Tryz.prog 76 chE)
  have O2 := hide (World.ownsMap_made (H := Unit) (W1.alloc (.map #[] 0)) Tryz.prog 25 (plainElem Tryz.prog 3))
  have s1 : (W1.alloc (.map #[] 0)).heap.size = W1.heap.size + 1 := by simp
  have B2 := hide ((below_next D1.out ((Below.refl W1.heap.size W1).alloc (Nat.le_refl _) (.map #[] 0))).alloc (by rw [s1]; have := D1.out.size; omega) (.map #[] 0))
  rw [s1] at O2
  go_upto_region 5 with ((with_reducible refine at_list ?_); first | refine wpList_bldX rfl _ rfl #[(0, .pointer (some ⟨gc, 0, none⟩)), (1, .int .i64 ((k : Int) + 1)), (2, .int .u32 (TM.toNat : Int)), (3, .map (some W1.heap.size)), (4, .map (some (W1.heap.size + 1)))] (drA gc ((k : Int) + 1) TM W1.heap.size (W1.heap.size + 1)) (by simp only [List.map_toArray, List.map_cons, List.map_nil]; rfl) (bldDr _ _ _ _ _) ?_ | refine wpList_boxA rfl _ rfl (drA gc ((k : Int) + 1) TM W1.heap.size (W1.heap.size + 1)) rfl ?_)
  have s2 : ((W1.alloc (.map #[] 0)).alloc (.map #[] 0)).heap.size = W1.heap.size + 1 + 1 := by simp
  have O1b := hide (own_block O1.out (Below.heap_alloc (W1.alloc (.map #[] 0)) (.map #[] 0) _ O1.out.lt))
  have h01 := hide D1.out.size
  clear O1 F0 F1 mk mk2 s1 c1 HM
  generalize (W1.alloc (.map #[] 0)).alloc (.map #[] 0) = W3 at *
  have b4 := (Below.refl W3.heap.size W3).alloc (Nat.le_refl _) (.cells (drA gc ((k : Int) + 1) TM W1.heap.size (W1.heap.size + 1)) 133)
  have D4 : Hid (Dst W0 (W3.alloc (.cells (drA gc ((k : Int) + 1) TM W1.heap.size (W1.heap.size + 1)) 133)) (W1.heap.size + 1 + 1) gc ((k : Int) + 1) TM W1.heap.size (W1.heap.size + 1) 0 0 (.map []) (.map [])) := by
    have := h01.out
    exact ⟨by rw [← s2]; exact heap_alloc_last W3 _, own_block O1b.out (b4.block _ O1b.out.lt), OmI.of_block O2.out (b4.block _ O2.out.lt), below_next B2.out b4, by omega, by omega, by omega, by omega, by omega, by omega⟩
  clear O1b O2 B2 D1 b4 h01
  generalize W3.alloc (.cells (drA gc ((k : Int) + 1) TM W1.heap.size (W1.heap.size + 1)) 133) = W4 at *
  try rw [s2]
  clear s2
  generalize W1.heap.size + 1 + 1 = gd at *
  generalize W1.heap.size + 1 = gb at *
  generalize W1.heap.size = ga at *
  have F4 := hide (HX.out _ D4.out.bel)
  have c4 := (RH.out _ F4.out.2.2.2).2
  go_upto_region 6 with fail
  clear c4
  have HA : Hid (∀ W, Dst W0 W gd gc ((k : Int) + 1) TM ga gb 0 0 (.map []) (.map []) → Calls Tryz.prog 82 #[.pointer (some ⟨gd, 0, none⟩), .agg x.arr] W fun e w' => e = .returned (.int .i64 0) ∧ Dst W0 w' gd gc ((k : Int) + 1) TM ga gb 1 1 ((DataW.map []).put (.string (⟨x.m.idT, 0, ok.l⟩ : Tp).keyB) (⟨⟨o.val, o.lock, (k : Int) + 1, true⟩, true⟩ : Chg).dat) ((DataW.map []).put (.string x.m.idT) (.lit (.int .i64 1)))) := fun W d => by
    have q := HX.out _ d.bel
    have q0 := HX.out _ (Below.refl _ _)
    exact add_base q0.2.1 d (by omega) (by omega) x (CN.out _ q0.1).2 q.2.2.1 o ok.os ok.s.b (by rw [← hTM]; exact ok.f) ok.t ok.l E1.out rfl
  have FX := hide (fun W (b : Below W0.heap.size W0 W) => And.intro (RH.out _ (HX.out _ b).2.2.2).2 (CN.out _ (HX.out _ b).1))
  clear HX RH CN F4 BZ E1
  go_loopw [35] (fun i wr => (i = .int .i64 0 ∧ wr = W4) ∨ (i = .int .i64 1 ∧ Hid (Dst W0 wr gd gc ((k : Int) + 1) TM ga gb 1 1 ((DataW.map []).put (.string (⟨x.m.idT, 0, ok.l⟩ : Tp).keyB) (⟨⟨o.val, o.lock, (k : Int) + 1, true⟩, true⟩ : Chg).dat) ((DataW.map []).put (.string x.m.idT) (.lit (.int .i64 1)))))) (fun i _ => (1 - intOf i).toNat)
  case atStart => exact .inl ⟨rfl, rfl⟩
  case round =>
    rcases hrel with ⟨rfl, h9⟩ | ⟨rfl, DF⟩
    · subst wr
      have F4 := hide (FX.out _ D4.out.bel)
      go_upto_region 8 with ((with_reducible refine at_list ?_); first | refine wpLoadT _ rfl gx ox rfl x (by have := F4.out.2.1; rwa [Nat.zero_mul, Nat.add_zero] at this) (by rfl) ?_ | refine wpList_allocA AT rfl rfl ?_ | refine wpList_store_newA AT rfl _ _ rfl _ rfl x.arr rfl XO.out rfl rfl ?_)
      have D5 := hide (D4.out.next ((Below.refl W4.heap.size W4).alloc (Nat.le_refl _) (.cells x.arr 90)))
      have R5 := hide (heap_alloc_last W4 (.cells x.arr 90))
      clear D4 F4
      generalize W4.alloc (.cells x.arr 90) = W5 at *
      generalize W4.heap.size = g5 at *
      generalize hXA : x.arr = XA at *
      go_wp2_with (first | (go_at_call 82; refine (HA.out _ D5.out).mono ?_; rintro e W6 ⟨rfl, de⟩; have D6 := hide de; clear de) | ((with_reducible refine at_list ?_); refine wpList_loadS AT _ rfl g5 rfl XA XZ.out 90 R5.out (by rfl) ?_))
      exact ⟨.inr ⟨rfl, D6⟩, by decide⟩
    · have F5 := hide (FX.out _ DF.out.bel)
      have c5 := F5.out.1
      clear D4 HA
      go_upto_region 13 with (first | (go_at_call 83; refine (HPd.out _ F5.out.2.2).mono ?_; rintro e W6 ⟨rfl, be⟩; have D6 := hide (DF.out.next be); clear be) | ((with_reducible refine at_list ?_); refine wpLoadT _ rfl gx ox rfl x (by have := F5.out.2.1; rwa [Nat.zero_mul, Nat.add_zero] at this) (by rfl) ?_))
      clear c5 F5 HPd
      have DV := hide (Below.refl W6.heap.size W6).drew
      refine wp_region_held_drew (S := fun W => Below W6.heap.size W6 W) (by kernel_rfl) DV.out (fun hH => ?_)
      generalize W6.drew = V1 at *
      have LDF : Hid (∀ W, Below W6.heap.size W6 W → (Instr.loadAt 131 (.pointer (some ⟨gd, 6, none⟩))).run Tryz.prog W = .ok (.agg #[.int .u64 0, .int .u64 0]) W) := fun W b => run_loadAt_mid W gd 6 131 [.int .u64 0, .int .u64 0] _ (fun j v hv => by
        have q := (D6.out.next b).cells
        match j, hv with
        | 0, hv => cases hv; exact q.2.2.2.2.2.2.1
        | 1, hv => cases hv; exact q.2.2.2.2.2.2.2) Tryz.underlying131 rfl (by kernel_rfl)
      refine wpAnyH_take (i := 0) (v := (.pointer (some ⟨gd, 0, none⟩))) rfl (by kernel_rfl) (by kernel_rfl) (by kernel_rfl) (fun _ _ _ h => h) (yl_move (by rfl) _ (by rfl) _ (by rfl)) hH ?_
      change wpAnyH _ _ _ _ _ _ _ (Act.put _ (some 56) _) _
      simp only [Act.put, List.setIfInBounds_toArray, List.set_cons_zero, List.set_cons_succ]
      refine wpAnyH_take (i := 1) (v := (.pointer (some ⟨gd, 0, none⟩))) rfl (by kernel_rfl) (by kernel_rfl) (by kernel_rfl) (fun _ _ _ h => h) (.inl ⟨by rfl, fun W _ => by go_simp⟩) hH ?_
      change wpAnyH _ _ _ _ _ _ _ (Act.put _ (some 57) _) _
      simp only [Act.put, List.setIfInBounds_toArray, List.set_cons_zero, List.set_cons_succ]
      refine wpAnyH_take (i := 2) (v := (.pointer (some ⟨gd, 6, none⟩))) rfl (by kernel_rfl) (by kernel_rfl) (by kernel_rfl) (fun _ _ _ h => h) (.inl ⟨by rfl, fun W _ => by go_simp⟩) hH ?_
      change wpAnyH _ _ _ _ _ _ _ (Act.put _ (some 58) _) _
      simp only [Act.put, List.setIfInBounds_toArray, List.set_cons_zero, List.set_cons_succ]
      refine wpAnyH_take (i := 3) (v := (.agg #[.int .u64 0, .int .u64 0])) rfl (by kernel_rfl) (by kernel_rfl) (by kernel_rfl) (fun _ _ _ h => h) (yl_load (by rfl) _ (by rfl) _ #[.int .u64 0, .int .u64 0] (by rfl) (fun W hS => LDF.out W hS)) hH ?_
      change wpAnyH _ _ _ _ _ _ _ (Act.put _ (some 59) _) _
      simp only [Act.put, List.setIfInBounds_toArray, List.set_cons_zero, List.set_cons_succ]
      refine wpAnyH_take (i := 4) (v := (.int .i64 ((k : Int) + 1))) rfl (by kernel_rfl) (by kernel_rfl) (by kernel_rfl) (fun _ _ _ h => h) (yl_move (by rfl) _ (by rfl) _ (by rfl)) hH ?_
      change wpAnyH _ _ _ _ _ _ _ (Act.put _ (some 60) _) _
      simp only [Act.put, List.setIfInBounds_toArray, List.set_cons_zero, List.set_cons_succ]
      refine wpAnyH_take (i := 7) (v := (.int .u64 (o.val.toNat : Int))) rfl (by kernel_rfl) (by kernel_rfl) (by kernel_rfl) (fun _ _ _ h => h) (yl_move (by rfl) _ (by rfl) _ (by rfl)) hH ?_
      change wpAnyH _ _ _ _ _ _ _ (Act.put _ (some 63) _) _
      simp only [Act.put, List.setIfInBounds_toArray, List.set_cons_zero, List.set_cons_succ]
      refine wpAnyH_ready (rs := [5]) (by kernel_rfl) (by simp) (AllReadyH.cons rfl (fun K1 hK1 => ?_) AllReadyH.nil)
      go_simp
      refine (HRw.out V1).mono ?_
      rintro r V2 ⟨rfl, h9⟩
      subst V2
      refine hK1.out _ _ DV.out (fun hH => ?_)
      clear hK1
      refine wpAnyH_ready (rs := [6]) (by kernel_rfl) (by simp) (AllReadyH.cons rfl (fun K1 hK1 => ?_) AllReadyH.nil)
      go_simp
      refine (HPl.out V1).mono ?_
      rintro r V2 ⟨rfl, be⟩
      have B7 := hide (below_next DV.out be)
      clear be
      refine hK1.out _ _ B7.out (fun hH => ?_)
      clear hK1
      refine wpAnyH_ready (rs := [8]) (by kernel_rfl) (by simp) (AllReadyH.cons rfl (fun K1 hK1 => ?_) AllReadyH.nil)
      go_simp
      refine (HBl.out V2).mono ?_
      rintro r V3 ⟨rfl, be⟩
      have B8 := hide (below_next B7.out be)
      clear be
      refine hK1.out _ _ B8.out (fun hH => ?_)
      clear hK1
      refine wpAnyH_done (by kernel_rfl) ?_ _
      clear hH
      go_wp2
      go_ret3
      exact ⟨gd, ga, gb, rfl, (D6.out.next B8.out).base B1.out⟩
end
end Go.Proofs.YtofddbjnncgmlabGreatDoor
