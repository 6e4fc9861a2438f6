/- play of a block of one coinbase: its contract. Connect of a block of one coinbase to a set without coins: its contract. -/
import Derived.Test.YtcoojkpimbddlaaGreatDoorP0
import Derived.Test.YtcoojkpimbddlaaGreatDoorX35
import Derived.Test.YtcoojkpimbddlaaGreatDoorX24
namespace Go.Proofs.YtcoojkpimbddlaaGreatDoor
open Go.RowKit
open Go.Deep
open Go.Maps
set_option linter.unusedVariables false
set_option linter.unusedSimpArgs false
structure Ok2 (h : Hd) (x : Tq) (k : Nat) (o : Tu) : Prop where
  s : Ok1 h x k
  os : x.m.outs = [o]
  t : x.m.toldE = 0
  f : finB x.m (k : Int) (h.time.toNat : Int) = true
  p : o.val.toNat ≤ 1000000
  r : o.val.toNat ≤ rwd (k : Int)
  l : x.m.idT.length = 32
theorem Ok2.paid {h : Hd} {x : Tq} {k : Nat} {o : Tu} (q : Ok2 h x k o) : x.m.paid = (o.val.toNat, 0) := by
  have := q.p
  rw [Tm.paid, q.os, paidR, if_neg (by omega), paidR, Nat.zero_add]
theorem Dst.base {A B W : World} {gd gc ga gb n m : Nat} {h : Int} {tm : UInt32} {D E : DataW Unit} (c : Dst B W gd gc h tm ga gb n m D E) (b : Below A.heap.size A B) : Dst A W gd gc h tm ga gb n m D E :=
  ⟨c.row, c.mp, c.ct, below_next b c.bel, Nat.le_trans b.size c.bg, Nat.le_trans b.size c.b1, Nat.le_trans b.size c.b2, c.n1, c.n2, c.n3⟩
theorem bldDr (gc : Nat) (h : Int) (tm : UInt32) (ga gb : Nat) (W : World) : (Instr.build 200 #[(0, .pointer (some ⟨gc, 0, none⟩)), (1, .int .i64 h), (2, .int .u32 (tm.toNat : Int)), (3, .map (some ga)), (4, .map (some gb))]).run Tryz.prog W = .ok (.agg (drA gc h tm ga gb)) W := by kernel_rfl
section
set_option maxRecDepth 10000
set_option maxHeartbeats 4000000
theorem play_one {A w : World} {gc bm bc nc mc : Nat} {h : Hd} {k : Nat} {DC EC : DataW Unit} (cs : Cst A w gc bm bc nc mc h.prev (k : Int) DC EC) (hk : k < 2147483647) (v : Value) (x : Tq) (hL : LQ w v [x]) (o : Tu) (ok : Ok2 h x (k + 1) o) (hK : Kg w)
    (e1 : EC.atKey (.string x.m.idT) (.lit (.int .i64 0)) = .lit (.int .i64 0)) :
    Calls Tryz.prog 95 #[.pointer (some ⟨gc, 0, none⟩), .agg (bkA h v), .int .i64 ((k : Int) + 1)] w fun e w' => ∃ gd ga gb, e = .returned (.tuple #[.pointer (some ⟨gd, 0, none⟩), .int .i64 0, .int .i64 0]) ∧ Dst w w' gd gc ((k : Int) + 1) h.time ga gb 1 1 ((DataW.map []).put (.string (⟨x.m.idT, 0, ok.l⟩ : Tp).keyB) (⟨⟨o.val, o.lock, (k : Int) + 1, true⟩, true⟩ : Chg).dat) ((DataW.map []).put (.string x.m.idT) (.lit (.int .i64 1))) := by
  obtain ⟨ao, cap, rfl⟩ := hL.l.form
  obtain ⟨gx, ox, rfl⟩ := hL.l.base (by simp)
  rw [show [x].length = 1 from rfl] at *
  have b1 := (Below.refl w.heap.size w).alloc (Nat.le_refl _) (.cells (bkA h (.slice (some ⟨gx, ox, none⟩) 1 cap)) 62)
  have R1 := hide (heap_alloc_last w (.cells (bkA h (.slice (some ⟨gx, ox, none⟩) 1 cap)) 62))
  have B1 := hide b1
  have HX := hide (fun W (b : Below (w.alloc (.cells (bkA h (.slice (some ⟨gx, ox, none⟩) 1 cap)) 62)).heap.size (w.alloc (.cells (bkA h (.slice (some ⟨gx, ox, none⟩) 1 cap)) 62)) W) => And.intro (hL.below (below_next b1 b)) (And.intro (cs.next (below_next b1 b)) (And.intro (hK.next (below_next b1 b)) ((b.block _ (lt_heap R1.out)).trans R1.out))))
  have HM := hide (fun W l (c : Cst A W gc bm bc nc mc h.prev (k : Int) DC EC) q => mayStand_yes c hk (.slice (some ⟨gx, ox, none⟩) 1 cap) x l ok.s q)
  have RH : Hid (∀ W : World, W.heap[w.heap.size]? = some (.cells (bkA h (.slice (some ⟨gx, ox, none⟩) 1 cap)) 62 (0, 0)) → W.cell? ⟨w.heap.size, 65, none⟩ = some (.int .u32 (h.time.toNat : Int)) ∧ W.cell? ⟨w.heap.size, 68, none⟩ = some (.slice (some ⟨gx, ox, none⟩) 1 cap)) := fun W e => ⟨by have := h.time0 (bkA_head e); rwa [Nat.zero_add] at this, bkA_txs e⟩
  have CN := hide (fun W (l : LQ W (.slice (some ⟨gx, ox, none⟩) 1 cap) [x]) => And.intro (show W.rangeAt gx (ox + 0 * 4) x.cells from l.l.range 0 (by simp)) (l.t x (by simp)))
  have BZ : Hid ((bkA h (.slice (some ⟨gx, ox, none⟩) 1 cap)).size = 69) := bkA_size _ _
  have OK := hide ok
  have E1 := hide e1
  have HPd : Hid (∀ W, x.can W → Calls Tryz.prog 165 #[.agg x.arr] W fun e w' => e = .returned (.tuple #[.int .u64 (o.val.toNat : Int), .int .i64 0]) ∧ Below W.heap.size W w') := fun W c => by
    have := paid_any x.m x.ai x.ci x.ao x.co W c.1 c.2
    rw [ok.paid] at this
    exact this
  have XZ : Hid (x.arr.size = 4) := rfl
  have XO := hide (x.m.one x.ai x.ci x.ao x.co)
  have HRw := hide (fun W => reward_any ((k : Int) + 1) (by omega) (by omega) W)
  have RWl : Hid (rwd ((k : Int) + 1) < 18446744073709551616) := by
    show rwd _ < _
    rw [rwd]
    split
    · omega
    · exact Nat.lt_of_le_of_lt (Nat.div_le_self _ _) (by omega)
  have HPl := hide (fun W => plus_zero (rwd ((k : Int) + 1)) RWl.out W)
  have HBl := hide (fun W => below_no (rwd ((k : Int) + 1)) o.val.toNat (by have := ok.r; rwa [Int.natCast_succ] at this) W)
  have mk := make_none 196 160 202 Tryz.underlying196
  have mk2 := make_none 118 46 3 Tryz.underlying118
  clear b1 hL hK cs e1
  generalize hTM : h.time = TM at *
  generalize bkA h (.slice (some ⟨gx, ox, none⟩) 1 cap) = C at *
  go_enter Tryz.func95, Tryz.ntmps95
  go_upto_region 1 with ((with_reducible refine at_list ?_); refine wpList_boxA rfl _ rfl C rfl ?_)
  generalize w.alloc (.cells C 62) = W0 at *
  have F0 := hide (HX.out _ (Below.refl _ _))
  go_upto_region 4 with (first | (go_at_call 163; refine (HM.out _ F0.out.1 F0.out.2.1 F0.out.2.2.1).mono ?_; rintro e W1 ⟨rfl, be⟩; have D1 := hide be; clear be) | ((with_reducible refine at_list ?_); refine wpList_loadS ABk _ rfl w.heap.size rfl C BZ.out 62 F0.out.2.2.2 (by rfl) ?_))
  have F1 := hide (HX.out _ D1.out)
  have c1 := (RH.out _ F1.out.2.2.2).1
  have O1 := hide (World.ownsMap_made (H := Unit) W1 Tryz.prog 160 chE)
  have O2 := hide (World.ownsMap_made (H := Unit) (W1.alloc (.map #[] 0)) Tryz.prog 46 (plainElem Tryz.prog 3))
  have s1 : (W1.alloc (.map #[] 0)).heap.size = W1.heap.size + 1 := by simp
  have B2 := hide ((below_next D1.out ((Below.refl W1.heap.size W1).alloc (Nat.le_refl _) (.map #[] 0))).alloc (by rw [s1]; have := D1.out.size; omega) (.map #[] 0))
  rw [s1] at O2
  go_upto_region 5 with ((with_reducible refine at_list ?_); first | refine wpList_bldX rfl _ rfl #[(0, .pointer (some ⟨gc, 0, none⟩)), (1, .int .i64 ((k : Int) + 1)), (2, .int .u32 (TM.toNat : Int)), (3, .map (some W1.heap.size)), (4, .map (some (W1.heap.size + 1)))] (drA gc ((k : Int) + 1) TM W1.heap.size (W1.heap.size + 1)) (by simp only [List.map_toArray, List.map_cons, List.map_nil]; rfl) (bldDr _ _ _ _ _) ?_ | refine wpList_boxA rfl _ rfl (drA gc ((k : Int) + 1) TM W1.heap.size (W1.heap.size + 1)) rfl ?_)
  have s2 : ((W1.alloc (.map #[] 0)).alloc (.map #[] 0)).heap.size = W1.heap.size + 1 + 1 := by simp
  have O1b := hide (own_block O1.out (Below.heap_alloc (W1.alloc (.map #[] 0)) (.map #[] 0) _ O1.out.lt))
  have h01 := hide D1.out.size
  clear O1 F0 F1 mk mk2 s1 c1 HM
  generalize (W1.alloc (.map #[] 0)).alloc (.map #[] 0) = W3 at *
  have b4 := (Below.refl W3.heap.size W3).alloc (Nat.le_refl _) (.cells (drA gc ((k : Int) + 1) TM W1.heap.size (W1.heap.size + 1)) 200)
  have D4 : Hid (Dst W0 (W3.alloc (.cells (drA gc ((k : Int) + 1) TM W1.heap.size (W1.heap.size + 1)) 200)) (W1.heap.size + 1 + 1) gc ((k : Int) + 1) TM W1.heap.size (W1.heap.size + 1) 0 0 (.map []) (.map [])) := by
    have := h01.out
    exact ⟨by rw [← s2]; exact heap_alloc_last W3 _, own_block O1b.out (b4.block _ O1b.out.lt), OmI.of_block O2.out (b4.block _ O2.out.lt), below_next B2.out b4, by omega, by omega, by omega, by omega, by omega, by omega⟩
  clear O1b O2 B2 D1 b4 h01
  generalize W3.alloc (.cells (drA gc ((k : Int) + 1) TM W1.heap.size (W1.heap.size + 1)) 200) = W4 at *
  try rw [s2]
  clear s2
  generalize W1.heap.size + 1 + 1 = gd at *
  generalize W1.heap.size + 1 = gb at *
  generalize W1.heap.size = ga at *
  have F4 := hide (HX.out _ D4.out.bel)
  have c4 := (RH.out _ F4.out.2.2.2).2
  go_upto_region 6 with fail
  clear c4
  have HA : Hid (∀ W, Dst W0 W gd gc ((k : Int) + 1) TM ga gb 0 0 (.map []) (.map []) → Calls Tryz.prog 164 #[.pointer (some ⟨gd, 0, none⟩), .agg x.arr] W fun e w' => e = .returned (.int .i64 0) ∧ Dst W0 w' gd gc ((k : Int) + 1) TM ga gb 1 1 ((DataW.map []).put (.string (⟨x.m.idT, 0, ok.l⟩ : Tp).keyB) (⟨⟨o.val, o.lock, (k : Int) + 1, true⟩, true⟩ : Chg).dat) ((DataW.map []).put (.string x.m.idT) (.lit (.int .i64 1)))) := fun W d => by
    have q := HX.out _ d.bel
    have q0 := HX.out _ (Below.refl _ _)
    exact add_base q0.2.1 d (by omega) (by omega) x (CN.out _ q0.1).2 q.2.2.1 o ok.os ok.s.b (by rw [← hTM]; exact ok.f) ok.t ok.l E1.out rfl
  have FX := hide (fun W (b : Below W0.heap.size W0 W) => And.intro (RH.out _ (HX.out _ b).2.2.2).2 (CN.out _ (HX.out _ b).1))
  clear HX RH CN F4 BZ E1
  go_loopw [35] (fun i wr => (i = .int .i64 0 ∧ wr = W4) ∨ (i = .int .i64 1 ∧ Hid (Dst W0 wr gd gc ((k : Int) + 1) TM ga gb 1 1 ((DataW.map []).put (.string (⟨x.m.idT, 0, ok.l⟩ : Tp).keyB) (⟨⟨o.val, o.lock, (k : Int) + 1, true⟩, true⟩ : Chg).dat) ((DataW.map []).put (.string x.m.idT) (.lit (.int .i64 1)))))) (fun i _ => (1 - intOf i).toNat)
  case atStart => exact .inl ⟨rfl, rfl⟩
  case round =>
    rcases hrel with ⟨rfl, h9⟩ | ⟨rfl, DF⟩
    · subst wr
      have F4 := hide (FX.out _ D4.out.bel)
      go_upto_region 8 with ((with_reducible refine at_list ?_); first | refine wpLoadT _ rfl gx ox rfl x (by have := F4.out.2.1; rwa [Nat.zero_mul, Nat.add_zero] at this) (by rfl) ?_ | refine wpList_allocA AT rfl rfl ?_ | refine wpList_store_newA AT rfl _ _ rfl _ rfl x.arr rfl XO.out rfl rfl ?_)
      have D5 := hide (D4.out.next ((Below.refl W4.heap.size W4).alloc (Nat.le_refl _) (.cells x.arr 152)))
      have R5 := hide (heap_alloc_last W4 (.cells x.arr 152))
      clear D4 F4
      generalize W4.alloc (.cells x.arr 152) = W5 at *
      generalize W4.heap.size = g5 at *
      generalize hXA : x.arr = XA at *
      go_wp2_with (first | (go_at_call 164; refine (HA.out _ D5.out).mono ?_; rintro e W6 ⟨rfl, de⟩; have D6 := hide de; clear de) | ((with_reducible refine at_list ?_); refine wpList_loadS AT _ rfl g5 rfl XA XZ.out 152 R5.out (by rfl) ?_))
      exact ⟨.inr ⟨rfl, D6⟩, by decide⟩
    · have F5 := hide (FX.out _ DF.out.bel)
      have c5 := F5.out.1
      clear D4 HA
      go_upto_region 13 with (first | (go_at_call 165; refine (HPd.out _ F5.out.2.2).mono ?_; rintro e W6 ⟨rfl, be⟩; have D6 := hide (DF.out.next be); clear be) | ((with_reducible refine at_list ?_); refine wpLoadT _ rfl gx ox rfl x (by have := F5.out.2.1; rwa [Nat.zero_mul, Nat.add_zero] at this) (by rfl) ?_))
      clear c5 F5 HPd
      have DV := hide (Below.refl W6.heap.size W6).drew
      refine wp_region_held_drew (S := fun W => Below W6.heap.size W6 W) (by kernel_rfl) DV.out (fun hH => ?_)
      generalize W6.drew = V1 at *
      have LDF : Hid (∀ W, Below W6.heap.size W6 W → (Instr.loadAt 198 (.pointer (some ⟨gd, 6, none⟩))).run Tryz.prog W = .ok (.agg #[.int .u64 0, .int .u64 0]) W) := fun W b => run_loadAt_mid W gd 6 198 [.int .u64 0, .int .u64 0] _ (fun j v hv => by
        have q := (D6.out.next b).cells
        match j, hv with
        | 0, hv => cases hv; exact q.2.2.2.2.2.2.1
        | 1, hv => cases hv; exact q.2.2.2.2.2.2.2) Tryz.underlying198 rfl (by kernel_rfl)
      refine wt (i := 0) (v := (.pointer (some ⟨gd, 0, none⟩))) rfl (yl_move (by rfl) _ (by rfl) _ (by rfl)) hH ?_
      change wpAnyH _ _ _ _ _ _ _ (Act.put _ (some 56) _) _
      simp only [Act.put, List.setIfInBounds_toArray, List.set_cons_zero, List.set_cons_succ]
      refine wt (i := 1) (v := (.pointer (some ⟨gd, 0, none⟩))) rfl (.inl ⟨by rfl, fun W _ => by go_simp⟩) hH ?_
      change wpAnyH _ _ _ _ _ _ _ (Act.put _ (some 57) _) _
      simp only [Act.put, List.setIfInBounds_toArray, List.set_cons_zero, List.set_cons_succ]
      refine wt (i := 2) (v := (.pointer (some ⟨gd, 6, none⟩))) rfl (.inl ⟨by rfl, fun W _ => by go_simp⟩) hH ?_
      change wpAnyH _ _ _ _ _ _ _ (Act.put _ (some 58) _) _
      simp only [Act.put, List.setIfInBounds_toArray, List.set_cons_zero, List.set_cons_succ]
      refine wt (i := 3) (v := (.agg #[.int .u64 0, .int .u64 0])) rfl (yl_load (by rfl) _ (by rfl) _ #[.int .u64 0, .int .u64 0] (by rfl) (fun W hS => LDF.out W hS)) hH ?_
      change wpAnyH _ _ _ _ _ _ _ (Act.put _ (some 59) _) _
      simp only [Act.put, List.setIfInBounds_toArray, List.set_cons_zero, List.set_cons_succ]
      refine wt (i := 4) (v := (.int .i64 ((k : Int) + 1))) rfl (yl_move (by rfl) _ (by rfl) _ (by rfl)) hH ?_
      change wpAnyH _ _ _ _ _ _ _ (Act.put _ (some 60) _) _
      simp only [Act.put, List.setIfInBounds_toArray, List.set_cons_zero, List.set_cons_succ]
      refine wt (i := 7) (v := (.int .u64 (o.val.toNat : Int))) rfl (yl_move (by rfl) _ (by rfl) _ (by rfl)) hH ?_
      change wpAnyH _ _ _ _ _ _ _ (Act.put _ (some 63) _) _
      simp only [Act.put, List.setIfInBounds_toArray, List.set_cons_zero, List.set_cons_succ]
      refine wpAnyH_ready (rs := [5]) (by kernel_rfl) (by simp) (AllReadyH.cons rfl (fun K1 hK1 => ?_) AllReadyH.nil)
      go_simp
      refine (HRw.out V1).mono ?_
      rintro r V2 ⟨rfl, h9⟩
      subst V2
      refine hK1.out _ _ DV.out (fun hH => ?_)
      clear hK1
      refine wpAnyH_ready (rs := [6]) (by kernel_rfl) (by simp) (AllReadyH.cons rfl (fun K1 hK1 => ?_) AllReadyH.nil)
      go_simp
      refine (HPl.out V1).mono ?_
      rintro r V2 ⟨rfl, be⟩
      have B7 := hide (below_next DV.out be)
      clear be
      refine hK1.out _ _ B7.out (fun hH => ?_)
      clear hK1
      refine wpAnyH_ready (rs := [8]) (by kernel_rfl) (by simp) (AllReadyH.cons rfl (fun K1 hK1 => ?_) AllReadyH.nil)
      go_simp
      refine (HBl.out V2).mono ?_
      rintro r V3 ⟨rfl, be⟩
      have B8 := hide (below_next B7.out be)
      clear be
      refine hK1.out _ _ B8.out (fun hH => ?_)
      clear hK1
      refine wpAnyH_done (by kernel_rfl) ?_ _
      clear hH
      go_wp2
      go_ret3
      exact ⟨gd, ga, gb, rfl, (D6.out.next B8.out).base B1.out⟩
end
theorem ranges_block {P : Program} {k : TypeId} {R : Value → Option (DataW Unit × List MemPlace)} {W W' : World} {b r n : Nat} {D : DataW Unit} {left : Lit → Bool} {cnt : Nat} (h : W.ranges P k R b r n D left cnt) (e1 : W'.heap[b]? = W.heap[b]?) (e2 : W'.heap[r]? = W.heap[r]?) : W'.ranges P k R b r n D left cnt := by
  obtain ⟨es, clock, since, seen, c0, hb, F, hs, hD, hr, q⟩ := h
  exact ⟨es, clock, since, seen, c0, e1.trans hb, F, hs, hD, e2.trans hr, q⟩
theorem AUn : Arr 91 1 #[.slice none 0 0] := ⟨.inr ⟨_, Tryz.underlying91⟩, by kernel_rfl, fun w => by kernel_rfl, fun w => by kernel_rfl, rfl⟩
def zChg : Chg := ⟨⟨0, ⟨#[]⟩, 0, false⟩, false⟩
theorem zChg_set (a b c d e : Value) : ((((zChg.cells.toArray.setIfInBounds 0 a).setIfInBounds 1 b).setIfInBounds 2 c).setIfInBounds 3 d).setIfInBounds 4 e = #[a, b, c, d, e] := rfl
theorem ACg : Arr 202 5 zChg.cells.toArray := ⟨.inr ⟨_, Tryz.underlying202⟩, by kernel_rfl, fun w => by kernel_rfl, fun w => by kernel_rfl, rfl⟩
theorem wpLd16 {w : World} {ops : Array Oper} {rest : List Oper} {o : Oper} {a : Act} {Q : Exit → Act → World → Prop} {t : TypeId} (x : Operand) (ho : o.op = .load t x) (v c : Value) (hx : a.eval x = v) (hr : (Instr.loadAt t v).run Tryz.prog w = .ok c w) (hw : Region.wanted o (yielded ops a.tmps) = true)
    (h : wpList Tryz.prog ops Q rest (a.put o.dst c) w) : wpList Tryz.prog ops Q (o :: rest) a w := by
  refine wpList_step fun K hK => ?_
  rw [if_pos hw]
  unfold Oper.wp execOp
  simp only [ho, hx, hr, Sem.run_bind, Result.andThen_ok, Sem.run_pure]
  exact hK _ _ h
section
variable {B W W' : World} {gc bm bc n m : Nat} {tip : List UInt8} {h : Int} {D E : DataW Unit}
theorem Cst.fr (c : Cst B W gc bm bc n m tip h D E) {S : Nat → Prop} (f : Frt S W W') (hS : ∀ g, S g → B.heap.size ≤ g ∧ g ≠ gc ∧ g ≠ bm ∧ g ≠ bc) : Cst B W' gc bm bc n m tip h D E := by
  have hs := c.bel.size
  have hf := f.size
  refine ⟨(f.block _ (lt_heap c.row) fun q => (hS _ q).2.1 rfl).trans c.row, own_block c.mp (f.block _ c.mp.lt fun q => (hS _ q).2.2.1 rfl), c.ct.of_block (f.block _ c.ct.lt fun q => (hS _ q).2.2.2 rfl), ⟨f.os.trans c.bel.os, f.tape.trans c.bel.tape, f.output.trans c.bel.output, by omega, fun k hk => (f.block k (by omega) fun q => ?_).trans (c.bel.block k hk)⟩, c.bg, c.b1, c.b2, c.n1, c.n2, c.n3, c.ht⟩
  have := (hS _ q).1
  omega
theorem Cst.there (c : Cst B W gc bm bc n m tip h D E) : W.there gc 0 32 := fun j hj => by
  refine ⟨?_, frozen_of_row W gc _ _ _ c.row⟩
  rw [cell_of_row _ _ _ _ _ _ c.row, Array.getElem?_eq_getElem (by rw [List.size_toArray, coL_len _ c.ht]; omega)]
  rfl
theorem Cst.setT (c : Cst B W gc bm bc n m tip h D E) (l : List UInt8) (hl : l.length = 32) : Cst B (W.setCells gc 0 (cellsL l)) gc bm bc n m l h D E := by
  have r := Rfr.setCells gc (cellsL l) 0 W
  have hs := c.bel.size
  have e := row_setCells [.int .i64 h, .map (some bm), .map (some bc)] gc 178 (cellsL l) (cellsL tip) [] W c.row (by rw [cellsL_len, cellsL_len, c.ht, hl])
  exact ⟨e, own_block c.mp (r.block _ c.mp.lt c.n1.symm), c.ct.of_block (r.block _ c.ct.lt c.n2.symm), ⟨r.os.trans c.bel.os, r.tape.trans c.bel.tape, r.output.trans c.bel.output, Nat.le_trans hs r.size, fun k hk => (r.block k (by omega) (by have := c.bg; omega)).trans (c.bel.block k hk)⟩, c.bg, c.b1, c.b2, c.n1, c.n2, c.n3, hl⟩
theorem Cst.setH (c : Cst B W gc bm bc n m tip h D E) (h' : Int) : Cst B (W.setCell ⟨gc, 32, none⟩ (.int .i64 h')) gc bm bc n m tip h' D E := by
  have e := heap_setCell_same W gc 32 _ _ (.int .i64 h') c.row
  have f := Frt.setCell (S := fun g => g = gc) W (p := ⟨gc, 32, none⟩) rfl (.int .i64 h')
  have hs := c.bel.size
  have hf := f.size
  refine ⟨?_, own_block c.mp (f.block _ c.mp.lt c.n1.symm), c.ct.of_block (f.block _ c.ct.lt c.n2.symm), ⟨f.os.trans c.bel.os, f.tape.trans c.bel.tape, f.output.trans c.bel.output, by omega, fun k hk => (f.block k (by omega) (by intro q; have := c.bg; omega)).trans (c.bel.block k hk)⟩, c.bg, c.b1, c.b2, c.n1, c.n2, c.n3, c.ht⟩
  rw [e]
  congr 2
  rw [List.setIfInBounds_toArray, coL, List.set_append_right _ _ (by rw [cellsL_len, c.ht]; exact Nat.le_refl _), cellsL_len, c.ht]
  rfl
end
section
set_option maxRecDepth 10000
set_option maxHeartbeats 1000000
end
end Go.Proofs.YtcoojkpimbddlaaGreatDoor
