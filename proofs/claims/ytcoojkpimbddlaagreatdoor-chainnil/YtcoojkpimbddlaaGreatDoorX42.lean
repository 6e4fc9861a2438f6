/- A chain of genesis: New: its contract. -/
import Derived.Test.YtcoojkpimbddlaaGreatDoorP0
import Derived.Test.YtcoojkpimbddlaaGreatDoorX41
import Derived.Test.YtcoojkpimbddlaaGreatDoorX36
import Derived.Test.YtcoojkpimbddlaaGreatDoorX33
namespace Go.Proofs.YtcoojkpimbddlaaGreatDoor
open Go.RowKit
open Go.Deep
open Go.Maps
set_option linter.unusedVariables false
set_option linter.unusedSimpArgs false
theorem Tm4.base {A B W : World} {gt gm n : Nat} {D : DataW Unit} {ve : Value} {L : List Tno} {tu be bh : Nat} (h : Tm4 B W gt gm n D ve L tu be bh) (b : Below A.heap.size A B) : Tm4 A W gt gm n D ve L tu be bh :=
  ⟨h.row, h.map, h.own, below_next b h.bel, Nat.le_trans b.size h.bt, Nat.le_trans b.size h.bm, h.ne, fun g hg => ⟨Nat.le_trans b.size (h.be g hg).1, (h.be g hg).2⟩⟩
theorem Tm4.map17 {B W W' : World} {gt gm n : Nat} {D : DataW Unit} {ve : Value} {L : List Tno} {tu be bh gb nb : Nat} {R : Value → Option (DataW Unit × List MemPlace)} {DB : DataW Unit} (h : Tm4 B W gt gm n D ve L tu be bh) (o : W.ownsMap Tryz.prog 46 R gb nb DB) (hb : B.heap.size ≤ gb) (n0 : gb ≠ gm) (F : Frt (fun g => g = gb) W W') : Tm4 B W' gt gm n D ve L tu be bh :=
  h.fr F (by
    rintro g rfl
    refine ⟨hb, (ne_map h.row o).symm, n0, fun e => ?_⟩
    obtain ⟨c, hc⟩ := h.own.rowT e
    exact ne_map hc o rfl)
theorem Cst.map17 {B W W' : World} {gc bm bc n m : Nat} {tip : List UInt8} {ht : Int} {DC EC : DataW Unit} {gb nb : Nat} {R : Value → Option (DataW Unit × List MemPlace)} {DB : DataW Unit} (h : Cst B W gc bm bc n m tip ht DC EC) (o : W.ownsMap Tryz.prog 46 R gb nb DB) (hb : B.heap.size ≤ gb) (n1 : gb ≠ bm) (n2 : gb ≠ bc) (F : Frt (fun g => g = gb) W W') : Cst B W' gc bm bc n m tip ht DC EC :=
  h.fr F (by
    rintro g rfl
    exact ⟨hb, (ne_map h.row o).symm, n1, n2⟩)
theorem ne17 {x y n : Nat} (l : y < n) (h : n ≤ x) : x ≠ y := by omega
theorem ex_mk17 {a : Act} {o : Oper} {w w1 : World} {v : Value} {t : TypeId} (ho : o.op = .makeMap t none) (hr : (Instr.makeMap t none).run Tryz.prog w = .ok v w1) : (execOp a.eval o).run Tryz.prog w = .ok (.value v) w1 := by
  unfold execOp
  simp only [ho, Option.map_none, hr, Sem.run_bind, Result.andThen_ok, Sem.run_pure]
theorem ldHd17 {W : World} {g off : Nat} {y : Hd} (hr : W.rangeAt g off y.cells) : (Instr.loadAt 48 (.pointer (some ⟨g, off, none⟩))).run Tryz.prog W = .ok (.agg y.cells.toArray) W :=
  run_loadAt_mid W g off 48 _ _ hr Tryz.underlying48 rfl (by rw [y.len]; kernel_rfl)
theorem bld_ch (gt gc gb gu : Nat) (W : World) : (Instr.build 208 #[(0, .pointer (some ⟨gt, 0, none⟩)), (1, .pointer (some ⟨gc, 0, none⟩)), (2, .map (some gb)), (3, .map (some gu))]).run Tryz.prog W = .ok (.agg (chA gt gc gb gu)) W := by kernel_rfl
theorem ch_new {w V : World} {gt gm nn : Nat} {DT : DataW Unit} {ve : Value} {L : List Tno} {tu be bh gc bm bc n m : Nat} {tip : List UInt8} {ht : Int} {DC EC : DataW Unit} {R : Value → Option (DataW Unit × List MemPlace)} {gb nb : Nat} {DB : DataW Unit} {gu nu : Nat} {DU : DataW Unit} (t : Tm4 w V gt gm nn DT ve L tu be bh) (c : Cst w V gc bm bc n m tip ht DC EC) (b : V.ownsMap Tryz.prog 46 R gb nb DB) (u : V.ownsMap Tryz.prog 46 unR gu nu DU) (hb : w.heap.size ≤ gb) (hu : w.heap.size ≤ gu) (n1 : gm ≠ bm ∧ gm ≠ bc ∧ gm ≠ gb ∧ gm ≠ gu) (n2 : gb ≠ bm ∧ gb ≠ bc ∧ gb ≠ gu) (n3 : gu ≠ bm ∧ gu ≠ bc) : Chw w (V.alloc (.cells (chA gt gc gb gu) 208)) V.heap.size gt gm nn DT ve L tu be bh gc bm bc n m tip ht DC EC R gb nb DB gu nu DU := by
  have a := (Below.refl V.heap.size V).alloc (Nat.le_refl _) (.cells (chA gt gc gb gu) 208)
  exact ⟨heap_alloc_last V _, t.next a, c.next a, own_block b (a.block _ b.lt), own_block u (a.block _ u.lt), t.bel.size, hb, hu, n1, n2, n3⟩
section
set_option maxRecDepth 10000
set_option maxHeartbeats 8000000
theorem newC_any (w : World) (hK : Kg w) : Calls Tryz.prog 101 #[] w fun e w' => ∃ gch gt gm ve gc bm bc gb gu, e = .returned (.pointer (some ⟨gch, 0, none⟩)) ∧ Chw w w' gch gt gm 1 ((DataW.map []).put (.string (gH.at 1).id) (.lit (.int .i64 0))) ve [ndG] 1 0 0 gc bm bc 0 0 (gH.at 1).id 0 (.map []) (.map []) boR gb 1 ((DataW.map []).put (.string (gH.at 1).id) (.lit (.int .i64 1))) gu 0 (.map []) := by
  have HG : Hid (∀ W, Kg W → Calls Tryz.prog 45 #[] W fun e w' => ∃ ao cap, e = .returned (.agg (bkA (gH.at 1) (.slice ao 1 cap))) ∧ Below W.heap.size W w') := fun W q => (genesis_any W q).mono (by rintro e w' ⟨ao, cap, y, rfl, _, _, be⟩; exact ⟨ao, cap, rfl, be⟩)
  have HI : Hid (∀ W, Kg W → Calls Tryz.prog 46 #[.agg (gH.at 1).cells.toArray] W fun e w' => e = .returned (.agg (hc (gH.at 1).id)) ∧ Below W.heap.size W w') := fun W q => hid_any (gH.at 1) W q
  have HT := hide (fun W q => newT_any W q)
  have HC := hide (fun W q => newCoins_any W q)
  have KS : Hid (∀ W, Below w.heap.size w W → Kg W) := fun W b => hK.next b
  have BZ := hide (fun ao cap => And.intro (bkA_size (gH.at 1) (.slice ao 1 cap)) (bkA_all (gH.at 1) ao 1 cap))
  have MP : Hid (∀ (W : World) (g : Nat) (ao : Option Addr) (cap : Nat), W.ownsMap Tryz.prog 46 boR g 0 (.map []) → ∃ W', (Instr.mapUpdate 205 (.map (some g)) (.agg (hc (gH.at 1).id)) (.agg (bkA (gH.at 1) (.slice ao 1 cap)))).run Tryz.prog W = .ok () W' ∧ W'.ownsMap Tryz.prog 46 boR g 1 ((DataW.map []).put (.string (gH.at 1).id) (.lit (.int .i64 1))) ∧ W.grownBy W' (some g)) := fun W g ao cap q => by
    obtain ⟨W', hr, ho, hg⟩ := q.store (val := .agg (bkA (gH.at 1) (.slice ao 1 cap))) (d := .lit (.int .i64 1)) (ps := []) lawH14 Tryz.underlying205 (by unfold maxLen; omega) (keyH14 _ (Hd.id_len _)) (by unfold boR; rw [kd17_bk, show (((gH.at 1).nonce.toNat : Nat) : Int) = 1 from rfl, if_neg (by omega)])
    exact ⟨W', hr, ho, hg.grown⟩
  have mk1 := hide (make_none 205 46 62 Tryz.underlying205)
  have mk2 := hide (make_none 206 46 91 Tryz.underlying206)
  clear hK
  generalize (DataW.map []).put (.string (gH.at 1).id) (.lit (.int .i64 0)) = DD at *
  generalize (DataW.map []).put (.string (gH.at 1).id) (.lit (.int .i64 1)) = DB at *
  generalize ndG = NG at *
  generalize gH.at 1 = HH at *
  generalize hID : HH.id = ID0 at *
  generalize hc ID0 = ID at *
  go_enter Tryz.func101, Tryz.ntmps101
  go_upto_region 2 with (first | (go_at_call 45; refine (HG.out _ (KS.out _ (Below.refl _ _))).mono ?_; rintro e W1 ⟨ao, cap, rfl, be⟩; have D1 := hide be; clear be) | ((with_reducible refine at_list ?_); first | refine wpList_allocA ABk rfl rfl ?_ | refine wpList_store_newA ABk rfl _ _ rfl _ rfl (bkA HH (.slice ao 1 cap)) (BZ.out ao cap).1 (BZ.out ao cap).2 rfl rfl ?_))
  have b2 := (Below.refl W1.heap.size W1).alloc (Nat.le_refl _) (.cells (bkA HH (.slice ao 1 cap)) 62)
  have D2 := hide (below_next D1.out b2)
  have R2 := hide (heap_alloc_last W1 (.cells (bkA HH (.slice ao 1 cap)) 62))
  have BZ1 := hide (BZ.out ao cap).1
  have MP1 := hide (fun W g q => MP.out W g ao cap q)
  have RH : Hid (∀ (W : World) (g : Nat), W.heap[g]? = some (.cells (bkA HH (.slice ao 1 cap)) 62 (0, 0)) → W.rangeAt g 0 HH.cells) := fun W g e => bkA_head e
  clear b2 D1 HG BZ MP
  generalize W1.alloc (.cells (bkA HH (.slice ao 1 cap)) 62) = W2 at *
  generalize W1.heap.size = g1 at *
  generalize bkA HH (.slice ao 1 cap) = BK at *
  have LH : Hid (∀ W, Below W2.heap.size W2 W → W.heap[g1]? = some (.cells BK 62 (0, 0))) := fun W b => (b.block _ (lt_heap R2.out)).trans R2.out
  have LW0 := hide (Below.refl W2.heap.size W2).drew
  refine wp_region_held_drew (S := fun W => Below W2.heap.size W2 W) (by kernel_rfl) LW0.out (fun hH => ?_)
  generalize W2.drew = V0 at *
  refine wt (i := 3) (v := (.pointer (some ⟨g1, 0, none⟩))) rfl (.inl ⟨by rfl, fun W _ => by go_simp⟩) hH ?_
  change wpAnyH _ _ _ _ _ _ _ (Act.put _ (some 6) _) _
  simp only [Act.put, s0, s1, s2]
  refine wt (i := 4) (v := (.agg HH.cells.toArray)) rfl (yl_load (by rfl) _ (by rfl) _ HH.cells.toArray (by rfl) (fun W hS => ldHd17 (RH.out _ _ (LH.out W hS)))) hH ?_
  change wpAnyH _ _ _ _ _ _ _ (Act.put _ (some 7) _) _
  simp only [Act.put, s0, s1, s2]
  refine wt (i := 6) (v := (.agg BK)) rfl (yl_load (by rfl) _ (by rfl) _ BK (by rfl) (fun W hS => ld_row ABk BZ1.out (LH.out W hS))) hH ?_
  change wpAnyH _ _ _ _ _ _ _ (Act.put _ (some 9) _) _
  simp only [Act.put, s0, s1, s2]
  refine wpAnyH_ready (rs := [0, 2, 9]) (by kernel_rfl) (by simp) (AllReadyH.cons rfl (fun K1 hK1 => ?_) (AllReadyH.cons rfl (fun K1 hK1 => ?_) (AllReadyH.cons rfl (fun K1 hK1 => ?_) AllReadyH.nil)))
  ·go_simp
   refine (HT.out V0 (KS.out _ (below_next D2.out LW0.out))).mono ?_
   rintro r V1 ⟨gt, gm, ve, rfl, t0⟩
   have be := t0.bel
   have TT1 := hide (t0.base (below_next D2.out LW0.out))
   have LW1 := hide (below_next LW0.out be)
   clear t0 be
   refine hK1.out _ _ LW1.out (fun hH => ?_)
   clear hK1
   refine wpAnyH_ready (rs := [1, 2, 9]) (by kernel_rfl) (by simp) (AllReadyH.cons rfl (fun K1 hK1 => ?_) (AllReadyH.cons rfl (fun K1 hK1 => ?_) (AllReadyH.cons rfl (fun K1 hK1 => ?_) AllReadyH.nil)))
   ·go_simp
    refine (HC.out V1 (KS.out _ (below_next D2.out LW1.out))).mono ?_
    rintro r V2 ⟨gc, bm, bc, rfl, c0⟩
    have be := c0.bel
    have CC2 := hide (c0.base (below_next D2.out LW1.out))
    have TT2 := hide (TT1.out.next be)
    have N_bm_gm := hide (ne17 TT1.out.map.lt c0.b1)
    have N_bc_gm := hide (ne17 TT1.out.map.lt c0.b2)
    have LW2 := hide (below_next LW1.out be)
    clear c0 be
    refine hK1.out _ _ LW2.out (fun hH => ?_)
    clear hK1
    refine wpAnyH_ready (rs := [2, 5, 9]) (by kernel_rfl) (by simp) (AllReadyH.cons rfl (fun K1 hK1 => ?_) (AllReadyH.cons rfl (fun K1 hK1 => ?_) (AllReadyH.cons rfl (fun K1 hK1 => ?_) AllReadyH.nil)))
    ·have be := (Below.refl V2.heap.size V2).alloc (Nat.le_refl _) (.map #[] 0)
     have TT3 := hide (TT2.out.next be)
     have CC3 := hide (CC2.out.next be)
     have MB3 := hide (World.ownsMap_made (H := Unit) V2 Tryz.prog 46 boR)
     have LW3 := hide (below_next LW2.out be)
     have GB : Hid (w.heap.size ≤ V2.heap.size) := (below_next D2.out LW2.out).size
     have GB2 : Hid (W2.heap.size ≤ V2.heap.size) := LW2.out.size
     have N_gb_gm := hide (ne17 TT2.out.map.lt (Nat.le_refl _))
     have N_gb_bm := hide (ne17 CC2.out.mp.lt (Nat.le_refl _))
     have N_gb_bc := hide (ne17 CC2.out.ct.lt (Nat.le_refl _))
     clear be
     refine step_run14 (by rfl) (ex_mk17 (by rfl) (mk1.out V2)) ?_
     refine hK1.out _ _ LW3.out (fun hH => ?_)
     clear hK1
     change wpAnyH _ _ _ _ _ _ _ (Act.put _ (some 5) _) _
     simp only [Act.put, s0, s1, s2]
     generalize V2.alloc (.map #[] 0) = V3 at *
     generalize V2.heap.size = gb at *
     refine wpAnyH_ready (rs := [5, 9]) (by kernel_rfl) (by simp) (AllReadyH.cons rfl (fun K1 hK1 => ?_) (AllReadyH.cons rfl (fun K1 hK1 => ?_) AllReadyH.nil))
     ·go_simp
      refine (HI.out V3 (KS.out _ (below_next D2.out LW3.out))).mono ?_
      rintro r V4 ⟨rfl, be⟩
      have TT4 := hide (TT3.out.next be)
      have CC4 := hide (CC3.out.next be)
      have MB4 := hide (own_block MB3.out (be.block _ MB3.out.lt))
      have LW4 := hide (below_next LW3.out be)
      clear be
      refine hK1.out _ _ LW4.out (fun hH => ?_)
      clear hK1
      refine wpAnyH_ready (rs := [7, 9]) (by kernel_rfl) (by simp) (AllReadyH.cons rfl (fun K1 hK1 => ?_) (AllReadyH.cons rfl (fun K1 hK1 => ?_) AllReadyH.nil))
      ·obtain ⟨V5, hrun, om, gr⟩ := MP1.out V4 gb MB4.out
       have fr := Frt.of_grown (S := fun g => g = gb) gr (by intro g e; cases e; rfl)
       have TT5 := hide (TT4.out.map17 MB4.out GB.out N_gb_gm.out fr)
       have CC5 := hide (CC4.out.map17 MB4.out GB.out N_gb_bm.out N_gb_bc.out fr)
       have MB5 := hide om
       have LW5 : Hid (Below W2.heap.size W2 V5) := ⟨fr.os.trans LW4.out.os, fr.tape.trans LW4.out.tape, fr.output.trans LW4.out.output, Nat.le_trans LW4.out.size fr.size, fun q hq => (fr.block q (Nat.lt_of_lt_of_le hq LW4.out.size) (by intro e; have := GB2.out; omega)).trans (LW4.out.block q hq)⟩
       refine step_skip14 (by rfl) (ex_ins _ _ _ _ (by rfl) _ _ _ (by rfl) (by rfl) (by rfl) hrun) ?_
       refine hK1.out _ _ LW5.out (fun hH => ?_)
       clear hK1 hrun om gr fr
       change wpAnyH _ _ _ _ _ _ _ (Act.put _ none _) _
       simp only [Act.put]
       refine wt (i := 8) (v := (.map (some gb))) rfl (yl_move (by rfl) _ (by rfl) _ (by rfl)) hH ?_
       change wpAnyH _ _ _ _ _ _ _ (Act.put _ (some 10) _) _
       simp only [Act.put, s0, s1, s2]
       refine wpAnyH_ready (rs := [9]) (by kernel_rfl) (by simp) (AllReadyH.cons rfl (fun K1 hK1 => ?_) AllReadyH.nil)
       have be := (Below.refl V5.heap.size V5).alloc (Nat.le_refl _) (.map #[] 0)
       have TT6 := hide (TT5.out.next be)
       have CC6 := hide (CC5.out.next be)
       have MB6 := hide (own_block MB5.out (be.block _ MB5.out.lt))
       have MU6 := hide (World.ownsMap_made (H := Unit) V5 Tryz.prog 46 unR)
       have LW6 := hide (below_next LW5.out be)
       have GU : Hid (w.heap.size ≤ V5.heap.size) := (below_next D2.out LW5.out).size
       have N_gu_gm := hide (ne17 TT5.out.map.lt (Nat.le_refl _))
       have N_gu_bm := hide (ne17 CC5.out.mp.lt (Nat.le_refl _))
       have N_gu_bc := hide (ne17 CC5.out.ct.lt (Nat.le_refl _))
       have N_gu_gb := hide (ne17 MB5.out.lt (Nat.le_refl _))
       clear be
       refine step_run14 (by rfl) (ex_mk17 (by rfl) (mk2.out V5)) ?_
       refine hK1.out _ _ LW6.out (fun hH => ?_)
       clear hK1
       change wpAnyH _ _ _ _ _ _ _ (Act.put _ (some 11) _) _
       simp only [Act.put, s0, s1, s2]
       generalize V5.alloc (.map #[] 0) = V6 at *
       generalize V5.heap.size = gu at *
       refine wt (i := 10) (v := (.agg (chA gt gc gb gu))) rfl (yl_build (by rfl) _ (by rfl) #[(0, .pointer (some ⟨gt, 0, none⟩)), (1, .pointer (some ⟨gc, 0, none⟩)), (2, .map (some gb)), (3, .map (some gu))] _ (by simp only [List.map_toArray, List.map_cons, List.map_nil]; rfl) (bld_ch gt gc gb gu)) hH ?_
       change wpAnyH _ _ _ _ _ _ _ (Act.put _ (some 12) _) _
       simp only [Act.put, s0, s1, s2]
       have FIN := hide (ch_new TT6.out CC6.out MB6.out MU6.out GB.out GU.out ⟨(Ne.symm N_bm_gm.out), (Ne.symm N_bc_gm.out), (Ne.symm N_gb_gm.out), (Ne.symm N_gu_gm.out)⟩ ⟨N_gb_bm.out, N_gb_bc.out, (Ne.symm N_gu_gb.out)⟩ ⟨N_gu_bm.out, N_gu_bc.out⟩)
       refine wpAnyH_ready (rs := [11]) (by kernel_rfl) (by simp) (AllReadyH.cons rfl (fun K1 hK1 => ?_) AllReadyH.nil)
       refine step_run14 (by rfl) (ex_box14 _ (by rfl) (chA gt gc gb gu) (by rfl)) ?_
       refine hK1.out _ _ (below_next LW6.out ((Below.refl V6.heap.size V6).alloc (Nat.le_refl _) _)) (fun hH => ?_)
       clear hK1
       change wpAnyH _ _ _ _ _ _ _ (Act.put _ (some 13) _) _
       simp only [Act.put, s0, s1, s2]
       refine wt (i := 12) (v := (.pointer (some ⟨V6.heap.size, 0, none⟩))) rfl (.inl ⟨by rfl, fun W _ => by go_simp⟩) hH ?_
       change wpAnyH _ _ _ _ _ _ _ (Act.put _ (some 0) _) _
       simp only [Act.put, s0, s1, s2]
       refine wpAnyH_done (by kernel_rfl) ?_ _
       go_wp2
       go_ret
       exact ⟨_, _, _, _, _, _, _, _, _, rfl, FIN.out⟩
      ·have be := (Below.refl V4.heap.size V4).alloc (Nat.le_refl _) (.map #[] 0)
       have TT5 := hide (TT4.out.next be)
       have CC5 := hide (CC4.out.next be)
       have MB5 := hide (own_block MB4.out (be.block _ MB4.out.lt))
       have MU5 := hide (World.ownsMap_made (H := Unit) V4 Tryz.prog 46 unR)
       have LW5 := hide (below_next LW4.out be)
       have GU : Hid (w.heap.size ≤ V4.heap.size) := (below_next D2.out LW4.out).size
       have N_gu_gm := hide (ne17 TT4.out.map.lt (Nat.le_refl _))
       have N_gu_bm := hide (ne17 CC4.out.mp.lt (Nat.le_refl _))
       have N_gu_bc := hide (ne17 CC4.out.ct.lt (Nat.le_refl _))
       have N_gu_gb := hide (ne17 MB4.out.lt (Nat.le_refl _))
       clear be
       refine step_run14 (by rfl) (ex_mk17 (by rfl) (mk2.out V4)) ?_
       refine hK1.out _ _ LW5.out (fun hH => ?_)
       clear hK1
       change wpAnyH _ _ _ _ _ _ _ (Act.put _ (some 11) _) _
       simp only [Act.put, s0, s1, s2]
       generalize V4.alloc (.map #[] 0) = V5 at *
       generalize V4.heap.size = gu at *
       refine wpAnyH_ready (rs := [7]) (by kernel_rfl) (by simp) (AllReadyH.cons rfl (fun K1 hK1 => ?_) AllReadyH.nil)
       obtain ⟨V6, hrun, om, gr⟩ := MP1.out V5 gb MB5.out
       have fr := Frt.of_grown (S := fun g => g = gb) gr (by intro g e; cases e; rfl)
       have TT6 := hide (TT5.out.map17 MB5.out GB.out N_gb_gm.out fr)
       have CC6 := hide (CC5.out.map17 MB5.out GB.out N_gb_bm.out N_gb_bc.out fr)
       have MB6 := hide om
       have MU6 := hide (own_block MU5.out (fr.block _ MU5.out.lt N_gu_gb.out))
       have LW6 : Hid (Below W2.heap.size W2 V6) := ⟨fr.os.trans LW5.out.os, fr.tape.trans LW5.out.tape, fr.output.trans LW5.out.output, Nat.le_trans LW5.out.size fr.size, fun q hq => (fr.block q (Nat.lt_of_lt_of_le hq LW5.out.size) (by intro e; have := GB2.out; omega)).trans (LW5.out.block q hq)⟩
       refine step_skip14 (by rfl) (ex_ins _ _ _ _ (by rfl) _ _ _ (by rfl) (by rfl) (by rfl) hrun) ?_
       refine hK1.out _ _ LW6.out (fun hH => ?_)
       clear hK1 hrun om gr fr
       change wpAnyH _ _ _ _ _ _ _ (Act.put _ none _) _
       simp only [Act.put]
       refine wt (i := 8) (v := (.map (some gb))) rfl (yl_move (by rfl) _ (by rfl) _ (by rfl)) hH ?_
       change wpAnyH _ _ _ _ _ _ _ (Act.put _ (some 10) _) _
       simp only [Act.put, s0, s1, s2]
       refine wt (i := 10) (v := (.agg (chA gt gc gb gu))) rfl (yl_build (by rfl) _ (by rfl) #[(0, .pointer (some ⟨gt, 0, none⟩)), (1, .pointer (some ⟨gc, 0, none⟩)), (2, .map (some gb)), (3, .map (some gu))] _ (by simp only [List.map_toArray, List.map_cons, List.map_nil]; rfl) (bld_ch gt gc gb gu)) hH ?_
       change wpAnyH _ _ _ _ _ _ _ (Act.put _ (some 12) _) _
       simp only [Act.put, s0, s1, s2]
       have FIN := hide (ch_new TT6.out CC6.out MB6.out MU6.out GB.out GU.out ⟨(Ne.symm N_bm_gm.out), (Ne.symm N_bc_gm.out), (Ne.symm N_gb_gm.out), (Ne.symm N_gu_gm.out)⟩ ⟨N_gb_bm.out, N_gb_bc.out, (Ne.symm N_gu_gb.out)⟩ ⟨N_gu_bm.out, N_gu_bc.out⟩)
       refine wpAnyH_ready (rs := [11]) (by kernel_rfl) (by simp) (AllReadyH.cons rfl (fun K1 hK1 => ?_) AllReadyH.nil)
       refine step_run14 (by rfl) (ex_box14 _ (by rfl) (chA gt gc gb gu) (by rfl)) ?_
       refine hK1.out _ _ (below_next LW6.out ((Below.refl V6.heap.size V6).alloc (Nat.le_refl _) _)) (fun hH => ?_)
       clear hK1
       change wpAnyH _ _ _ _ _ _ _ (Act.put _ (some 13) _) _
       simp only [Act.put, s0, s1, s2]
       refine wt (i := 12) (v := (.pointer (some ⟨V6.heap.size, 0, none⟩))) rfl (.inl ⟨by rfl, fun W _ => by go_simp⟩) hH ?_
       change wpAnyH _ _ _ _ _ _ _ (Act.put _ (some 0) _) _
       simp only [Act.put, s0, s1, s2]
       refine wpAnyH_done (by kernel_rfl) ?_ _
       go_wp2
       go_ret
       exact ⟨_, _, _, _, _, _, _, _, _, rfl, FIN.out⟩
     ·have be := (Below.refl V3.heap.size V3).alloc (Nat.le_refl _) (.map #[] 0)
      have TT4 := hide (TT3.out.next be)
      have CC4 := hide (CC3.out.next be)
      have MB4 := hide (own_block MB3.out (be.block _ MB3.out.lt))
      have MU4 := hide (World.ownsMap_made (H := Unit) V3 Tryz.prog 46 unR)
      have LW4 := hide (below_next LW3.out be)
      have GU : Hid (w.heap.size ≤ V3.heap.size) := (below_next D2.out LW3.out).size
      have N_gu_gm := hide (ne17 TT3.out.map.lt (Nat.le_refl _))
      have N_gu_bm := hide (ne17 CC3.out.mp.lt (Nat.le_refl _))
      have N_gu_bc := hide (ne17 CC3.out.ct.lt (Nat.le_refl _))
      have N_gu_gb := hide (ne17 MB3.out.lt (Nat.le_refl _))
      clear be
      refine step_run14 (by rfl) (ex_mk17 (by rfl) (mk2.out V3)) ?_
      refine hK1.out _ _ LW4.out (fun hH => ?_)
      clear hK1
      change wpAnyH _ _ _ _ _ _ _ (Act.put _ (some 11) _) _
      simp only [Act.put, s0, s1, s2]
      generalize V3.alloc (.map #[] 0) = V4 at *
      generalize V3.heap.size = gu at *
      refine wpAnyH_ready (rs := [5]) (by kernel_rfl) (by simp) (AllReadyH.cons rfl (fun K1 hK1 => ?_) AllReadyH.nil)
      go_simp
      refine (HI.out V4 (KS.out _ (below_next D2.out LW4.out))).mono ?_
      rintro r V5 ⟨rfl, be⟩
      have TT5 := hide (TT4.out.next be)
      have CC5 := hide (CC4.out.next be)
      have MB5 := hide (own_block MB4.out (be.block _ MB4.out.lt))
      have MU5 := hide (own_block MU4.out (be.block _ MU4.out.lt))
      have LW5 := hide (below_next LW4.out be)
      clear be
      refine hK1.out _ _ LW5.out (fun hH => ?_)
      clear hK1
      refine wpAnyH_ready (rs := [7]) (by kernel_rfl) (by simp) (AllReadyH.cons rfl (fun K1 hK1 => ?_) AllReadyH.nil)
      obtain ⟨V6, hrun, om, gr⟩ := MP1.out V5 gb MB5.out
      have fr := Frt.of_grown (S := fun g => g = gb) gr (by intro g e; cases e; rfl)
      have TT6 := hide (TT5.out.map17 MB5.out GB.out N_gb_gm.out fr)
      have CC6 := hide (CC5.out.map17 MB5.out GB.out N_gb_bm.out N_gb_bc.out fr)
      have MB6 := hide om
      have MU6 := hide (own_block MU5.out (fr.block _ MU5.out.lt N_gu_gb.out))
      have LW6 : Hid (Below W2.heap.size W2 V6) := ⟨fr.os.trans LW5.out.os, fr.tape.trans LW5.out.tape, fr.output.trans LW5.out.output, Nat.le_trans LW5.out.size fr.size, fun q hq => (fr.block q (Nat.lt_of_lt_of_le hq LW5.out.size) (by intro e; have := GB2.out; omega)).trans (LW5.out.block q hq)⟩
      refine step_skip14 (by rfl) (ex_ins _ _ _ _ (by rfl) _ _ _ (by rfl) (by rfl) (by rfl) hrun) ?_
      refine hK1.out _ _ LW6.out (fun hH => ?_)
      clear hK1 hrun om gr fr
      change wpAnyH _ _ _ _ _ _ _ (Act.put _ none _) _
      simp only [Act.put]
      refine wt (i := 8) (v := (.map (some gb))) rfl (yl_move (by rfl) _ (by rfl) _ (by rfl)) hH ?_
      change wpAnyH _ _ _ _ _ _ _ (Act.put _ (some 10) _) _
      simp only [Act.put, s0, s1, s2]
      refine wt (i := 10) (v := (.agg (chA gt gc gb gu))) rfl (yl_build (by rfl) _ (by rfl) #[(0, .pointer (some ⟨gt, 0, none⟩)), (1, .pointer (some ⟨gc, 0, none⟩)), (2, .map (some gb)), (3, .map (some gu))] _ (by simp only [List.map_toArray, List.map_cons, List.map_nil]; rfl) (bld_ch gt gc gb gu)) hH ?_
      change wpAnyH _ _ _ _ _ _ _ (Act.put _ (some 12) _) _
      simp only [Act.put, s0, s1, s2]
      have FIN := hide (ch_new TT6.out CC6.out MB6.out MU6.out GB.out GU.out ⟨(Ne.symm N_bm_gm.out), (Ne.symm N_bc_gm.out), (Ne.symm N_gb_gm.out), (Ne.symm N_gu_gm.out)⟩ ⟨N_gb_bm.out, N_gb_bc.out, (Ne.symm N_gu_gb.out)⟩ ⟨N_gu_bm.out, N_gu_bc.out⟩)
      refine wpAnyH_ready (rs := [11]) (by kernel_rfl) (by simp) (AllReadyH.cons rfl (fun K1 hK1 => ?_) AllReadyH.nil)
      refine step_run14 (by rfl) (ex_box14 _ (by rfl) (chA gt gc gb gu) (by rfl)) ?_
      refine hK1.out _ _ (below_next LW6.out ((Below.refl V6.heap.size V6).alloc (Nat.le_refl _) _)) (fun hH => ?_)
      clear hK1
      change wpAnyH _ _ _ _ _ _ _ (Act.put _ (some 13) _) _
      simp only [Act.put, s0, s1, s2]
      refine wt (i := 12) (v := (.pointer (some ⟨V6.heap.size, 0, none⟩))) rfl (.inl ⟨by rfl, fun W _ => by go_simp⟩) hH ?_
      change wpAnyH _ _ _ _ _ _ _ (Act.put _ (some 0) _) _
      simp only [Act.put, s0, s1, s2]
      refine wpAnyH_done (by kernel_rfl) ?_ _
      go_wp2
      go_ret
      exact ⟨_, _, _, _, _, _, _, _, _, rfl, FIN.out⟩
    ·go_simp
     refine (HI.out V2 (KS.out _ (below_next D2.out LW2.out))).mono ?_
     rintro r V3 ⟨rfl, be⟩
     have TT3 := hide (TT2.out.next be)
     have CC3 := hide (CC2.out.next be)
     have LW3 := hide (below_next LW2.out be)
     clear be
     refine hK1.out _ _ LW3.out (fun hH => ?_)
     clear hK1
     refine wpAnyH_ready (rs := [2, 9]) (by kernel_rfl) (by simp) (AllReadyH.cons rfl (fun K1 hK1 => ?_) (AllReadyH.cons rfl (fun K1 hK1 => ?_) AllReadyH.nil))
     ·have be := (Below.refl V3.heap.size V3).alloc (Nat.le_refl _) (.map #[] 0)
      have TT4 := hide (TT3.out.next be)
      have CC4 := hide (CC3.out.next be)
      have MB4 := hide (World.ownsMap_made (H := Unit) V3 Tryz.prog 46 boR)
      have LW4 := hide (below_next LW3.out be)
      have GB : Hid (w.heap.size ≤ V3.heap.size) := (below_next D2.out LW3.out).size
      have GB2 : Hid (W2.heap.size ≤ V3.heap.size) := LW3.out.size
      have N_gb_gm := hide (ne17 TT3.out.map.lt (Nat.le_refl _))
      have N_gb_bm := hide (ne17 CC3.out.mp.lt (Nat.le_refl _))
      have N_gb_bc := hide (ne17 CC3.out.ct.lt (Nat.le_refl _))
      clear be
      refine step_run14 (by rfl) (ex_mk17 (by rfl) (mk1.out V3)) ?_
      refine hK1.out _ _ LW4.out (fun hH => ?_)
      clear hK1
      change wpAnyH _ _ _ _ _ _ _ (Act.put _ (some 5) _) _
      simp only [Act.put, s0, s1, s2]
      generalize V3.alloc (.map #[] 0) = V4 at *
      generalize V3.heap.size = gb at *
      refine wpAnyH_ready (rs := [7, 9]) (by kernel_rfl) (by simp) (AllReadyH.cons rfl (fun K1 hK1 => ?_) (AllReadyH.cons rfl (fun K1 hK1 => ?_) AllReadyH.nil))
      ·obtain ⟨V5, hrun, om, gr⟩ := MP1.out V4 gb MB4.out
       have fr := Frt.of_grown (S := fun g => g = gb) gr (by intro g e; cases e; rfl)
       have TT5 := hide (TT4.out.map17 MB4.out GB.out N_gb_gm.out fr)
       have CC5 := hide (CC4.out.map17 MB4.out GB.out N_gb_bm.out N_gb_bc.out fr)
       have MB5 := hide om
       have LW5 : Hid (Below W2.heap.size W2 V5) := ⟨fr.os.trans LW4.out.os, fr.tape.trans LW4.out.tape, fr.output.trans LW4.out.output, Nat.le_trans LW4.out.size fr.size, fun q hq => (fr.block q (Nat.lt_of_lt_of_le hq LW4.out.size) (by intro e; have := GB2.out; omega)).trans (LW4.out.block q hq)⟩
       refine step_skip14 (by rfl) (ex_ins _ _ _ _ (by rfl) _ _ _ (by rfl) (by rfl) (by rfl) hrun) ?_
       refine hK1.out _ _ LW5.out (fun hH => ?_)
       clear hK1 hrun om gr fr
       change wpAnyH _ _ _ _ _ _ _ (Act.put _ none _) _
       simp only [Act.put]
       refine wt (i := 8) (v := (.map (some gb))) rfl (yl_move (by rfl) _ (by rfl) _ (by rfl)) hH ?_
       change wpAnyH _ _ _ _ _ _ _ (Act.put _ (some 10) _) _
       simp only [Act.put, s0, s1, s2]
       refine wpAnyH_ready (rs := [9]) (by kernel_rfl) (by simp) (AllReadyH.cons rfl (fun K1 hK1 => ?_) AllReadyH.nil)
       have be := (Below.refl V5.heap.size V5).alloc (Nat.le_refl _) (.map #[] 0)
       have TT6 := hide (TT5.out.next be)
       have CC6 := hide (CC5.out.next be)
       have MB6 := hide (own_block MB5.out (be.block _ MB5.out.lt))
       have MU6 := hide (World.ownsMap_made (H := Unit) V5 Tryz.prog 46 unR)
       have LW6 := hide (below_next LW5.out be)
       have GU : Hid (w.heap.size ≤ V5.heap.size) := (below_next D2.out LW5.out).size
       have N_gu_gm := hide (ne17 TT5.out.map.lt (Nat.le_refl _))
       have N_gu_bm := hide (ne17 CC5.out.mp.lt (Nat.le_refl _))
       have N_gu_bc := hide (ne17 CC5.out.ct.lt (Nat.le_refl _))
       have N_gu_gb := hide (ne17 MB5.out.lt (Nat.le_refl _))
       clear be
       refine step_run14 (by rfl) (ex_mk17 (by rfl) (mk2.out V5)) ?_
       refine hK1.out _ _ LW6.out (fun hH => ?_)
       clear hK1
       change wpAnyH _ _ _ _ _ _ _ (Act.put _ (some 11) _) _
       simp only [Act.put, s0, s1, s2]
       generalize V5.alloc (.map #[] 0) = V6 at *
       generalize V5.heap.size = gu at *
       refine wt (i := 10) (v := (.agg (chA gt gc gb gu))) rfl (yl_build (by rfl) _ (by rfl) #[(0, .pointer (some ⟨gt, 0, none⟩)), (1, .pointer (some ⟨gc, 0, none⟩)), (2, .map (some gb)), (3, .map (some gu))] _ (by simp only [List.map_toArray, List.map_cons, List.map_nil]; rfl) (bld_ch gt gc gb gu)) hH ?_
       change wpAnyH _ _ _ _ _ _ _ (Act.put _ (some 12) _) _
       simp only [Act.put, s0, s1, s2]
       have FIN := hide (ch_new TT6.out CC6.out MB6.out MU6.out GB.out GU.out ⟨(Ne.symm N_bm_gm.out), (Ne.symm N_bc_gm.out), (Ne.symm N_gb_gm.out), (Ne.symm N_gu_gm.out)⟩ ⟨N_gb_bm.out, N_gb_bc.out, (Ne.symm N_gu_gb.out)⟩ ⟨N_gu_bm.out, N_gu_bc.out⟩)
       refine wpAnyH_ready (rs := [11]) (by kernel_rfl) (by simp) (AllReadyH.cons rfl (fun K1 hK1 => ?_) AllReadyH.nil)
       refine step_run14 (by rfl) (ex_box14 _ (by rfl) (chA gt gc gb gu) (by rfl)) ?_
       refine hK1.out _ _ (below_next LW6.out ((Below.refl V6.heap.size V6).alloc (Nat.le_refl _) _)) (fun hH => ?_)
       clear hK1
       change wpAnyH _ _ _ _ _ _ _ (Act.put _ (some 13) _) _
       simp only [Act.put, s0, s1, s2]
       refine wt (i := 12) (v := (.pointer (some ⟨V6.heap.size, 0, none⟩))) rfl (.inl ⟨by rfl, fun W _ => by go_simp⟩) hH ?_
       change wpAnyH _ _ _ _ _ _ _ (Act.put _ (some 0) _) _
       simp only [Act.put, s0, s1, s2]
       refine wpAnyH_done (by kernel_rfl) ?_ _
       go_wp2
       go_ret
       exact ⟨_, _, _, _, _, _, _, _, _, rfl, FIN.out⟩
      ·have be := (Below.refl V4.heap.size V4).alloc (Nat.le_refl _) (.map #[] 0)
       have TT5 := hide (TT4.out.next be)
       have CC5 := hide (CC4.out.next be)
       have MB5 := hide (own_block MB4.out (be.block _ MB4.out.lt))
       have MU5 := hide (World.ownsMap_made (H := Unit) V4 Tryz.prog 46 unR)
       have LW5 := hide (below_next LW4.out be)
       have GU : Hid (w.heap.size ≤ V4.heap.size) := (below_next D2.out LW4.out).size
       have N_gu_gm := hide (ne17 TT4.out.map.lt (Nat.le_refl _))
       have N_gu_bm := hide (ne17 CC4.out.mp.lt (Nat.le_refl _))
       have N_gu_bc := hide (ne17 CC4.out.ct.lt (Nat.le_refl _))
       have N_gu_gb := hide (ne17 MB4.out.lt (Nat.le_refl _))
       clear be
       refine step_run14 (by rfl) (ex_mk17 (by rfl) (mk2.out V4)) ?_
       refine hK1.out _ _ LW5.out (fun hH => ?_)
       clear hK1
       change wpAnyH _ _ _ _ _ _ _ (Act.put _ (some 11) _) _
       simp only [Act.put, s0, s1, s2]
       generalize V4.alloc (.map #[] 0) = V5 at *
       generalize V4.heap.size = gu at *
       refine wpAnyH_ready (rs := [7]) (by kernel_rfl) (by simp) (AllReadyH.cons rfl (fun K1 hK1 => ?_) AllReadyH.nil)
       obtain ⟨V6, hrun, om, gr⟩ := MP1.out V5 gb MB5.out
       have fr := Frt.of_grown (S := fun g => g = gb) gr (by intro g e; cases e; rfl)
       have TT6 := hide (TT5.out.map17 MB5.out GB.out N_gb_gm.out fr)
       have CC6 := hide (CC5.out.map17 MB5.out GB.out N_gb_bm.out N_gb_bc.out fr)
       have MB6 := hide om
       have MU6 := hide (own_block MU5.out (fr.block _ MU5.out.lt N_gu_gb.out))
       have LW6 : Hid (Below W2.heap.size W2 V6) := ⟨fr.os.trans LW5.out.os, fr.tape.trans LW5.out.tape, fr.output.trans LW5.out.output, Nat.le_trans LW5.out.size fr.size, fun q hq => (fr.block q (Nat.lt_of_lt_of_le hq LW5.out.size) (by intro e; have := GB2.out; omega)).trans (LW5.out.block q hq)⟩
       refine step_skip14 (by rfl) (ex_ins _ _ _ _ (by rfl) _ _ _ (by rfl) (by rfl) (by rfl) hrun) ?_
       refine hK1.out _ _ LW6.out (fun hH => ?_)
       clear hK1 hrun om gr fr
       change wpAnyH _ _ _ _ _ _ _ (Act.put _ none _) _
       simp only [Act.put]
       refine wt (i := 8) (v := (.map (some gb))) rfl (yl_move (by rfl) _ (by rfl) _ (by rfl)) hH ?_
       change wpAnyH _ _ _ _ _ _ _ (Act.put _ (some 10) _) _
       simp only [Act.put, s0, s1, s2]
       refine wt (i := 10) (v := (.agg (chA gt gc gb gu))) rfl (yl_build (by rfl) _ (by rfl) #[(0, .pointer (some ⟨gt, 0, none⟩)), (1, .pointer (some ⟨gc, 0, none⟩)), (2, .map (some gb)), (3, .map (some gu))] _ (by simp only [List.map_toArray, List.map_cons, List.map_nil]; rfl) (bld_ch gt gc gb gu)) hH ?_
       change wpAnyH _ _ _ _ _ _ _ (Act.put _ (some 12) _) _
       simp only [Act.put, s0, s1, s2]
       have FIN := hide (ch_new TT6.out CC6.out MB6.out MU6.out GB.out GU.out ⟨(Ne.symm N_bm_gm.out), (Ne.symm N_bc_gm.out), (Ne.symm N_gb_gm.out), (Ne.symm N_gu_gm.out)⟩ ⟨N_gb_bm.out, N_gb_bc.out, (Ne.symm N_gu_gb.out)⟩ ⟨N_gu_bm.out, N_gu_bc.out⟩)
       refine wpAnyH_ready (rs := [11]) (by kernel_rfl) (by simp) (AllReadyH.cons rfl (fun K1 hK1 => ?_) AllReadyH.nil)
       refine step_run14 (by rfl) (ex_box14 _ (by rfl) (chA gt gc gb gu) (by rfl)) ?_
       refine hK1.out _ _ (below_next LW6.out ((Below.refl V6.heap.size V6).alloc (Nat.le_refl _) _)) (fun hH => ?_)
       clear hK1
       change wpAnyH _ _ _ _ _ _ _ (Act.put _ (some 13) _) _
       simp only [Act.put, s0, s1, s2]
       refine wt (i := 12) (v := (.pointer (some ⟨V6.heap.size, 0, none⟩))) rfl (.inl ⟨by rfl, fun W _ => by go_simp⟩) hH ?_
       change wpAnyH _ _ _ _ _ _ _ (Act.put _ (some 0) _) _
       simp only [Act.put, s0, s1, s2]
       refine wpAnyH_done (by kernel_rfl) ?_ _
       go_wp2
       go_ret
       exact ⟨_, _, _, _, _, _, _, _, _, rfl, FIN.out⟩
     ·have be := (Below.refl V3.heap.size V3).alloc (Nat.le_refl _) (.map #[] 0)
      have TT4 := hide (TT3.out.next be)
      have CC4 := hide (CC3.out.next be)
      have MU4 := hide (World.ownsMap_made (H := Unit) V3 Tryz.prog 46 unR)
      have LW4 := hide (below_next LW3.out be)
      have GU : Hid (w.heap.size ≤ V3.heap.size) := (below_next D2.out LW3.out).size
      have N_gu_gm := hide (ne17 TT3.out.map.lt (Nat.le_refl _))
      have N_gu_bm := hide (ne17 CC3.out.mp.lt (Nat.le_refl _))
      have N_gu_bc := hide (ne17 CC3.out.ct.lt (Nat.le_refl _))
      clear be
      refine step_run14 (by rfl) (ex_mk17 (by rfl) (mk2.out V3)) ?_
      refine hK1.out _ _ LW4.out (fun hH => ?_)
      clear hK1
      change wpAnyH _ _ _ _ _ _ _ (Act.put _ (some 11) _) _
      simp only [Act.put, s0, s1, s2]
      generalize V3.alloc (.map #[] 0) = V4 at *
      generalize V3.heap.size = gu at *
      refine wpAnyH_ready (rs := [2]) (by kernel_rfl) (by simp) (AllReadyH.cons rfl (fun K1 hK1 => ?_) AllReadyH.nil)
      have be := (Below.refl V4.heap.size V4).alloc (Nat.le_refl _) (.map #[] 0)
      have TT5 := hide (TT4.out.next be)
      have CC5 := hide (CC4.out.next be)
      have MU5 := hide (own_block MU4.out (be.block _ MU4.out.lt))
      have MB5 := hide (World.ownsMap_made (H := Unit) V4 Tryz.prog 46 boR)
      have LW5 := hide (below_next LW4.out be)
      have GB : Hid (w.heap.size ≤ V4.heap.size) := (below_next D2.out LW4.out).size
      have GB2 : Hid (W2.heap.size ≤ V4.heap.size) := LW4.out.size
      have N_gb_gm := hide (ne17 TT4.out.map.lt (Nat.le_refl _))
      have N_gb_bm := hide (ne17 CC4.out.mp.lt (Nat.le_refl _))
      have N_gb_bc := hide (ne17 CC4.out.ct.lt (Nat.le_refl _))
      have N_gb_gu := hide (ne17 MU4.out.lt (Nat.le_refl _))
      clear be
      refine step_run14 (by rfl) (ex_mk17 (by rfl) (mk1.out V4)) ?_
      refine hK1.out _ _ LW5.out (fun hH => ?_)
      clear hK1
      change wpAnyH _ _ _ _ _ _ _ (Act.put _ (some 5) _) _
      simp only [Act.put, s0, s1, s2]
      generalize V4.alloc (.map #[] 0) = V5 at *
      generalize V4.heap.size = gb at *
      refine wpAnyH_ready (rs := [7]) (by kernel_rfl) (by simp) (AllReadyH.cons rfl (fun K1 hK1 => ?_) AllReadyH.nil)
      obtain ⟨V6, hrun, om, gr⟩ := MP1.out V5 gb MB5.out
      have fr := Frt.of_grown (S := fun g => g = gb) gr (by intro g e; cases e; rfl)
      have TT6 := hide (TT5.out.map17 MB5.out GB.out N_gb_gm.out fr)
      have CC6 := hide (CC5.out.map17 MB5.out GB.out N_gb_bm.out N_gb_bc.out fr)
      have MB6 := hide om
      have MU6 := hide (own_block MU5.out (fr.block _ MU5.out.lt (Ne.symm N_gb_gu.out)))
      have LW6 : Hid (Below W2.heap.size W2 V6) := ⟨fr.os.trans LW5.out.os, fr.tape.trans LW5.out.tape, fr.output.trans LW5.out.output, Nat.le_trans LW5.out.size fr.size, fun q hq => (fr.block q (Nat.lt_of_lt_of_le hq LW5.out.size) (by intro e; have := GB2.out; omega)).trans (LW5.out.block q hq)⟩
      refine step_skip14 (by rfl) (ex_ins _ _ _ _ (by rfl) _ _ _ (by rfl) (by rfl) (by rfl) hrun) ?_
      refine hK1.out _ _ LW6.out (fun hH => ?_)
      clear hK1 hrun om gr fr
      change wpAnyH _ _ _ _ _ _ _ (Act.put _ none _) _
      simp only [Act.put]
      refine wt (i := 8) (v := (.map (some gb))) rfl (yl_move (by rfl) _ (by rfl) _ (by rfl)) hH ?_
      change wpAnyH _ _ _ _ _ _ _ (Act.put _ (some 10) _) _
      simp only [Act.put, s0, s1, s2]
      refine wt (i := 10) (v := (.agg (chA gt gc gb gu))) rfl (yl_build (by rfl) _ (by rfl) #[(0, .pointer (some ⟨gt, 0, none⟩)), (1, .pointer (some ⟨gc, 0, none⟩)), (2, .map (some gb)), (3, .map (some gu))] _ (by simp only [List.map_toArray, List.map_cons, List.map_nil]; rfl) (bld_ch gt gc gb gu)) hH ?_
      change wpAnyH _ _ _ _ _ _ _ (Act.put _ (some 12) _) _
      simp only [Act.put, s0, s1, s2]
      have FIN := hide (ch_new TT6.out CC6.out MB6.out MU6.out GB.out GU.out ⟨(Ne.symm N_bm_gm.out), (Ne.symm N_bc_gm.out), (Ne.symm N_gb_gm.out), (Ne.symm N_gu_gm.out)⟩ ⟨N_gb_bm.out, N_gb_bc.out, N_gb_gu.out⟩ ⟨N_gu_bm.out, N_gu_bc.out⟩)
      refine wpAnyH_ready (rs := [11]) (by kernel_rfl) (by simp) (AllReadyH.cons rfl (fun K1 hK1 => ?_) AllReadyH.nil)
      refine step_run14 (by rfl) (ex_box14 _ (by rfl) (chA gt gc gb gu) (by rfl)) ?_
      refine hK1.out _ _ (below_next LW6.out ((Below.refl V6.heap.size V6).alloc (Nat.le_refl _) _)) (fun hH => ?_)
      clear hK1
      change wpAnyH _ _ _ _ _ _ _ (Act.put _ (some 13) _) _
      simp only [Act.put, s0, s1, s2]
      refine wt (i := 12) (v := (.pointer (some ⟨V6.heap.size, 0, none⟩))) rfl (.inl ⟨by rfl, fun W _ => by go_simp⟩) hH ?_
      change wpAnyH _ _ _ _ _ _ _ (Act.put _ (some 0) _) _
      simp only [Act.put, s0, s1, s2]
      refine wpAnyH_done (by kernel_rfl) ?_ _
      go_wp2
      go_ret
      exact ⟨_, _, _, _, _, _, _, _, _, rfl, FIN.out⟩
    ·have be := (Below.refl V2.heap.size V2).alloc (Nat.le_refl _) (.map #[] 0)
     have TT3 := hide (TT2.out.next be)
     have CC3 := hide (CC2.out.next be)
     have MU3 := hide (World.ownsMap_made (H := Unit) V2 Tryz.prog 46 unR)
     have LW3 := hide (below_next LW2.out be)
     have GU : Hid (w.heap.size ≤ V2.heap.size) := (below_next D2.out LW2.out).size
     have N_gu_gm := hide (ne17 TT2.out.map.lt (Nat.le_refl _))
     have N_gu_bm := hide (ne17 CC2.out.mp.lt (Nat.le_refl _))
     have N_gu_bc := hide (ne17 CC2.out.ct.lt (Nat.le_refl _))
     clear be
     refine step_run14 (by rfl) (ex_mk17 (by rfl) (mk2.out V2)) ?_
     refine hK1.out _ _ LW3.out (fun hH => ?_)
     clear hK1
     change wpAnyH _ _ _ _ _ _ _ (Act.put _ (some 11) _) _
     simp only [Act.put, s0, s1, s2]
     generalize V2.alloc (.map #[] 0) = V3 at *
     generalize V2.heap.size = gu at *
     refine wpAnyH_ready (rs := [2, 5]) (by kernel_rfl) (by simp) (AllReadyH.cons rfl (fun K1 hK1 => ?_) (AllReadyH.cons rfl (fun K1 hK1 => ?_) AllReadyH.nil))
     ·have be := (Below.refl V3.heap.size V3).alloc (Nat.le_refl _) (.map #[] 0)
      have TT4 := hide (TT3.out.next be)
      have CC4 := hide (CC3.out.next be)
      have MU4 := hide (own_block MU3.out (be.block _ MU3.out.lt))
      have MB4 := hide (World.ownsMap_made (H := Unit) V3 Tryz.prog 46 boR)
      have LW4 := hide (below_next LW3.out be)
      have GB : Hid (w.heap.size ≤ V3.heap.size) := (below_next D2.out LW3.out).size
      have GB2 : Hid (W2.heap.size ≤ V3.heap.size) := LW3.out.size
      have N_gb_gm := hide (ne17 TT3.out.map.lt (Nat.le_refl _))
      have N_gb_bm := hide (ne17 CC3.out.mp.lt (Nat.le_refl _))
      have N_gb_bc := hide (ne17 CC3.out.ct.lt (Nat.le_refl _))
      have N_gb_gu := hide (ne17 MU3.out.lt (Nat.le_refl _))
      clear be
      refine step_run14 (by rfl) (ex_mk17 (by rfl) (mk1.out V3)) ?_
      refine hK1.out _ _ LW4.out (fun hH => ?_)
      clear hK1
      change wpAnyH _ _ _ _ _ _ _ (Act.put _ (some 5) _) _
      simp only [Act.put, s0, s1, s2]
      generalize V3.alloc (.map #[] 0) = V4 at *
      generalize V3.heap.size = gb at *
      refine wpAnyH_ready (rs := [5]) (by kernel_rfl) (by simp) (AllReadyH.cons rfl (fun K1 hK1 => ?_) AllReadyH.nil)
      go_simp
      refine (HI.out V4 (KS.out _ (below_next D2.out LW4.out))).mono ?_
      rintro r V5 ⟨rfl, be⟩
      have TT5 := hide (TT4.out.next be)
      have CC5 := hide (CC4.out.next be)
      have MB5 := hide (own_block MB4.out (be.block _ MB4.out.lt))
      have MU5 := hide (own_block MU4.out (be.block _ MU4.out.lt))
      have LW5 := hide (below_next LW4.out be)
      clear be
      refine hK1.out _ _ LW5.out (fun hH => ?_)
      clear hK1
      refine wpAnyH_ready (rs := [7]) (by kernel_rfl) (by simp) (AllReadyH.cons rfl (fun K1 hK1 => ?_) AllReadyH.nil)
      obtain ⟨V6, hrun, om, gr⟩ := MP1.out V5 gb MB5.out
      have fr := Frt.of_grown (S := fun g => g = gb) gr (by intro g e; cases e; rfl)
      have TT6 := hide (TT5.out.map17 MB5.out GB.out N_gb_gm.out fr)
      have CC6 := hide (CC5.out.map17 MB5.out GB.out N_gb_bm.out N_gb_bc.out fr)
      have MB6 := hide om
      have MU6 := hide (own_block MU5.out (fr.block _ MU5.out.lt (Ne.symm N_gb_gu.out)))
      have LW6 : Hid (Below W2.heap.size W2 V6) := ⟨fr.os.trans LW5.out.os, fr.tape.trans LW5.out.tape, fr.output.trans LW5.out.output, Nat.le_trans LW5.out.size fr.size, fun q hq => (fr.block q (Nat.lt_of_lt_of_le hq LW5.out.size) (by intro e; have := GB2.out; omega)).trans (LW5.out.block q hq)⟩
      refine step_skip14 (by rfl) (ex_ins _ _ _ _ (by rfl) _ _ _ (by rfl) (by rfl) (by rfl) hrun) ?_
      refine hK1.out _ _ LW6.out (fun hH => ?_)
      clear hK1 hrun om gr fr
      change wpAnyH _ _ _ _ _ _ _ (Act.put _ none _) _
      simp only [Act.put]
      refine wt (i := 8) (v := (.map (some gb))) rfl (yl_move (by rfl) _ (by rfl) _ (by rfl)) hH ?_
      change wpAnyH _ _ _ _ _ _ _ (Act.put _ (some 10) _) _
      simp only [Act.put, s0, s1, s2]
      refine wt (i := 10) (v := (.agg (chA gt gc gb gu))) rfl (yl_build (by rfl) _ (by rfl) #[(0, .pointer (some ⟨gt, 0, none⟩)), (1, .pointer (some ⟨gc, 0, none⟩)), (2, .map (some gb)), (3, .map (some gu))] _ (by simp only [List.map_toArray, List.map_cons, List.map_nil]; rfl) (bld_ch gt gc gb gu)) hH ?_
      change wpAnyH _ _ _ _ _ _ _ (Act.put _ (some 12) _) _
      simp only [Act.put, s0, s1, s2]
      have FIN := hide (ch_new TT6.out CC6.out MB6.out MU6.out GB.out GU.out ⟨(Ne.symm N_bm_gm.out), (Ne.symm N_bc_gm.out), (Ne.symm N_gb_gm.out), (Ne.symm N_gu_gm.out)⟩ ⟨N_gb_bm.out, N_gb_bc.out, N_gb_gu.out⟩ ⟨N_gu_bm.out, N_gu_bc.out⟩)
      refine wpAnyH_ready (rs := [11]) (by kernel_rfl) (by simp) (AllReadyH.cons rfl (fun K1 hK1 => ?_) AllReadyH.nil)
      refine step_run14 (by rfl) (ex_box14 _ (by rfl) (chA gt gc gb gu) (by rfl)) ?_
      refine hK1.out _ _ (below_next LW6.out ((Below.refl V6.heap.size V6).alloc (Nat.le_refl _) _)) (fun hH => ?_)
      clear hK1
      change wpAnyH _ _ _ _ _ _ _ (Act.put _ (some 13) _) _
      simp only [Act.put, s0, s1, s2]
      refine wt (i := 12) (v := (.pointer (some ⟨V6.heap.size, 0, none⟩))) rfl (.inl ⟨by rfl, fun W _ => by go_simp⟩) hH ?_
      change wpAnyH _ _ _ _ _ _ _ (Act.put _ (some 0) _) _
      simp only [Act.put, s0, s1, s2]
      refine wpAnyH_done (by kernel_rfl) ?_ _
      go_wp2
      go_ret
      exact ⟨_, _, _, _, _, _, _, _, _, rfl, FIN.out⟩
     ·go_simp
      refine (HI.out V3 (KS.out _ (below_next D2.out LW3.out))).mono ?_
      rintro r V4 ⟨rfl, be⟩
      have TT4 := hide (TT3.out.next be)
      have CC4 := hide (CC3.out.next be)
      have MU4 := hide (own_block MU3.out (be.block _ MU3.out.lt))
      have LW4 := hide (below_next LW3.out be)
      clear be
      refine hK1.out _ _ LW4.out (fun hH => ?_)
      clear hK1
      refine wpAnyH_ready (rs := [2]) (by kernel_rfl) (by simp) (AllReadyH.cons rfl (fun K1 hK1 => ?_) AllReadyH.nil)
      have be := (Below.refl V4.heap.size V4).alloc (Nat.le_refl _) (.map #[] 0)
      have TT5 := hide (TT4.out.next be)
      have CC5 := hide (CC4.out.next be)
      have MU5 := hide (own_block MU4.out (be.block _ MU4.out.lt))
      have MB5 := hide (World.ownsMap_made (H := Unit) V4 Tryz.prog 46 boR)
      have LW5 := hide (below_next LW4.out be)
      have GB : Hid (w.heap.size ≤ V4.heap.size) := (below_next D2.out LW4.out).size
      have GB2 : Hid (W2.heap.size ≤ V4.heap.size) := LW4.out.size
      have N_gb_gm := hide (ne17 TT4.out.map.lt (Nat.le_refl _))
      have N_gb_bm := hide (ne17 CC4.out.mp.lt (Nat.le_refl _))
      have N_gb_bc := hide (ne17 CC4.out.ct.lt (Nat.le_refl _))
      have N_gb_gu := hide (ne17 MU4.out.lt (Nat.le_refl _))
      clear be
      refine step_run14 (by rfl) (ex_mk17 (by rfl) (mk1.out V4)) ?_
      refine hK1.out _ _ LW5.out (fun hH => ?_)
      clear hK1
      change wpAnyH _ _ _ _ _ _ _ (Act.put _ (some 5) _) _
      simp only [Act.put, s0, s1, s2]
      generalize V4.alloc (.map #[] 0) = V5 at *
      generalize V4.heap.size = gb at *
      refine wpAnyH_ready (rs := [7]) (by kernel_rfl) (by simp) (AllReadyH.cons rfl (fun K1 hK1 => ?_) AllReadyH.nil)
      obtain ⟨V6, hrun, om, gr⟩ := MP1.out V5 gb MB5.out
      have fr := Frt.of_grown (S := fun g => g = gb) gr (by intro g e; cases e; rfl)
      have TT6 := hide (TT5.out.map17 MB5.out GB.out N_gb_gm.out fr)
      have CC6 := hide (CC5.out.map17 MB5.out GB.out N_gb_bm.out N_gb_bc.out fr)
      have MB6 := hide om
      have MU6 := hide (own_block MU5.out (fr.block _ MU5.out.lt (Ne.symm N_gb_gu.out)))
      have LW6 : Hid (Below W2.heap.size W2 V6) := ⟨fr.os.trans LW5.out.os, fr.tape.trans LW5.out.tape, fr.output.trans LW5.out.output, Nat.le_trans LW5.out.size fr.size, fun q hq => (fr.block q (Nat.lt_of_lt_of_le hq LW5.out.size) (by intro e; have := GB2.out; omega)).trans (LW5.out.block q hq)⟩
      refine step_skip14 (by rfl) (ex_ins _ _ _ _ (by rfl) _ _ _ (by rfl) (by rfl) (by rfl) hrun) ?_
      refine hK1.out _ _ LW6.out (fun hH => ?_)
      clear hK1 hrun om gr fr
      change wpAnyH _ _ _ _ _ _ _ (Act.put _ none _) _
      simp only [Act.put]
      refine wt (i := 8) (v := (.map (some gb))) rfl (yl_move (by rfl) _ (by rfl) _ (by rfl)) hH ?_
      change wpAnyH _ _ _ _ _ _ _ (Act.put _ (some 10) _) _
      simp only [Act.put, s0, s1, s2]
      refine wt (i := 10) (v := (.agg (chA gt gc gb gu))) rfl (yl_build (by rfl) _ (by rfl) #[(0, .pointer (some ⟨gt, 0, none⟩)), (1, .pointer (some ⟨gc, 0, none⟩)), (2, .map (some gb)), (3, .map (some gu))] _ (by simp only [List.map_toArray, List.map_cons, List.map_nil]; rfl) (bld_ch gt gc gb gu)) hH ?_
      change wpAnyH _ _ _ _ _ _ _ (Act.put _ (some 12) _) _
      simp only [Act.put, s0, s1, s2]
      have FIN := hide (ch_new TT6.out CC6.out MB6.out MU6.out GB.out GU.out ⟨(Ne.symm N_bm_gm.out), (Ne.symm N_bc_gm.out), (Ne.symm N_gb_gm.out), (Ne.symm N_gu_gm.out)⟩ ⟨N_gb_bm.out, N_gb_bc.out, N_gb_gu.out⟩ ⟨N_gu_bm.out, N_gu_bc.out⟩)
      refine wpAnyH_ready (rs := [11]) (by kernel_rfl) (by simp) (AllReadyH.cons rfl (fun K1 hK1 => ?_) AllReadyH.nil)
      refine step_run14 (by rfl) (ex_box14 _ (by rfl) (chA gt gc gb gu) (by rfl)) ?_
      refine hK1.out _ _ (below_next LW6.out ((Below.refl V6.heap.size V6).alloc (Nat.le_refl _) _)) (fun hH => ?_)
      clear hK1
      change wpAnyH _ _ _ _ _ _ _ (Act.put _ (some 13) _) _
      simp only [Act.put, s0, s1, s2]
      refine wt (i := 12) (v := (.pointer (some ⟨V6.heap.size, 0, none⟩))) rfl (.inl ⟨by rfl, fun W _ => by go_simp⟩) hH ?_
      change wpAnyH _ _ _ _ _ _ _ (Act.put _ (some 0) _) _
      simp only [Act.put, s0, s1, s2]
      refine wpAnyH_done (by kernel_rfl) ?_ _
      go_wp2
      go_ret
      exact ⟨_, _, _, _, _, _, _, _, _, rfl, FIN.out⟩
   ·have be := (Below.refl V1.heap.size V1).alloc (Nat.le_refl _) (.map #[] 0)
    have TT2 := hide (TT1.out.next be)
    have MB2 := hide (World.ownsMap_made (H := Unit) V1 Tryz.prog 46 boR)
    have LW2 := hide (below_next LW1.out be)
    have GB : Hid (w.heap.size ≤ V1.heap.size) := (below_next D2.out LW1.out).size
    have GB2 : Hid (W2.heap.size ≤ V1.heap.size) := LW1.out.size
    have N_gb_gm := hide (ne17 TT1.out.map.lt (Nat.le_refl _))
    clear be
    refine step_run14 (by rfl) (ex_mk17 (by rfl) (mk1.out V1)) ?_
    refine hK1.out _ _ LW2.out (fun hH => ?_)
    clear hK1
    change wpAnyH _ _ _ _ _ _ _ (Act.put _ (some 5) _) _
    simp only [Act.put, s0, s1, s2]
    generalize V1.alloc (.map #[] 0) = V2 at *
    generalize V1.heap.size = gb at *
    refine wpAnyH_ready (rs := [1, 9]) (by kernel_rfl) (by simp) (AllReadyH.cons rfl (fun K1 hK1 => ?_) (AllReadyH.cons rfl (fun K1 hK1 => ?_) AllReadyH.nil))
    ·go_simp
     refine (HC.out V2 (KS.out _ (below_next D2.out LW2.out))).mono ?_
     rintro r V3 ⟨gc, bm, bc, rfl, c0⟩
     have be := c0.bel
     have CC3 := hide (c0.base (below_next D2.out LW2.out))
     have TT3 := hide (TT2.out.next be)
     have MB3 := hide (own_block MB2.out (be.block _ MB2.out.lt))
     have N_bm_gm := hide (ne17 TT2.out.map.lt c0.b1)
     have N_bm_gb := hide (ne17 MB2.out.lt c0.b1)
     have N_bc_gm := hide (ne17 TT2.out.map.lt c0.b2)
     have N_bc_gb := hide (ne17 MB2.out.lt c0.b2)
     have LW3 := hide (below_next LW2.out be)
     clear c0 be
     refine hK1.out _ _ LW3.out (fun hH => ?_)
     clear hK1
     refine wpAnyH_ready (rs := [5, 9]) (by kernel_rfl) (by simp) (AllReadyH.cons rfl (fun K1 hK1 => ?_) (AllReadyH.cons rfl (fun K1 hK1 => ?_) AllReadyH.nil))
     ·go_simp
      refine (HI.out V3 (KS.out _ (below_next D2.out LW3.out))).mono ?_
      rintro r V4 ⟨rfl, be⟩
      have TT4 := hide (TT3.out.next be)
      have CC4 := hide (CC3.out.next be)
      have MB4 := hide (own_block MB3.out (be.block _ MB3.out.lt))
      have LW4 := hide (below_next LW3.out be)
      clear be
      refine hK1.out _ _ LW4.out (fun hH => ?_)
      clear hK1
      refine wpAnyH_ready (rs := [7, 9]) (by kernel_rfl) (by simp) (AllReadyH.cons rfl (fun K1 hK1 => ?_) (AllReadyH.cons rfl (fun K1 hK1 => ?_) AllReadyH.nil))
      ·obtain ⟨V5, hrun, om, gr⟩ := MP1.out V4 gb MB4.out
       have fr := Frt.of_grown (S := fun g => g = gb) gr (by intro g e; cases e; rfl)
       have TT5 := hide (TT4.out.map17 MB4.out GB.out N_gb_gm.out fr)
       have CC5 := hide (CC4.out.map17 MB4.out GB.out (Ne.symm N_bm_gb.out) (Ne.symm N_bc_gb.out) fr)
       have MB5 := hide om
       have LW5 : Hid (Below W2.heap.size W2 V5) := ⟨fr.os.trans LW4.out.os, fr.tape.trans LW4.out.tape, fr.output.trans LW4.out.output, Nat.le_trans LW4.out.size fr.size, fun q hq => (fr.block q (Nat.lt_of_lt_of_le hq LW4.out.size) (by intro e; have := GB2.out; omega)).trans (LW4.out.block q hq)⟩
       refine step_skip14 (by rfl) (ex_ins _ _ _ _ (by rfl) _ _ _ (by rfl) (by rfl) (by rfl) hrun) ?_
       refine hK1.out _ _ LW5.out (fun hH => ?_)
       clear hK1 hrun om gr fr
       change wpAnyH _ _ _ _ _ _ _ (Act.put _ none _) _
       simp only [Act.put]
       refine wt (i := 8) (v := (.map (some gb))) rfl (yl_move (by rfl) _ (by rfl) _ (by rfl)) hH ?_
       change wpAnyH _ _ _ _ _ _ _ (Act.put _ (some 10) _) _
       simp only [Act.put, s0, s1, s2]
       refine wpAnyH_ready (rs := [9]) (by kernel_rfl) (by simp) (AllReadyH.cons rfl (fun K1 hK1 => ?_) AllReadyH.nil)
       have be := (Below.refl V5.heap.size V5).alloc (Nat.le_refl _) (.map #[] 0)
       have TT6 := hide (TT5.out.next be)
       have CC6 := hide (CC5.out.next be)
       have MB6 := hide (own_block MB5.out (be.block _ MB5.out.lt))
       have MU6 := hide (World.ownsMap_made (H := Unit) V5 Tryz.prog 46 unR)
       have LW6 := hide (below_next LW5.out be)
       have GU : Hid (w.heap.size ≤ V5.heap.size) := (below_next D2.out LW5.out).size
       have N_gu_gm := hide (ne17 TT5.out.map.lt (Nat.le_refl _))
       have N_gu_bm := hide (ne17 CC5.out.mp.lt (Nat.le_refl _))
       have N_gu_bc := hide (ne17 CC5.out.ct.lt (Nat.le_refl _))
       have N_gu_gb := hide (ne17 MB5.out.lt (Nat.le_refl _))
       clear be
       refine step_run14 (by rfl) (ex_mk17 (by rfl) (mk2.out V5)) ?_
       refine hK1.out _ _ LW6.out (fun hH => ?_)
       clear hK1
       change wpAnyH _ _ _ _ _ _ _ (Act.put _ (some 11) _) _
       simp only [Act.put, s0, s1, s2]
       generalize V5.alloc (.map #[] 0) = V6 at *
       generalize V5.heap.size = gu at *
       refine wt (i := 10) (v := (.agg (chA gt gc gb gu))) rfl (yl_build (by rfl) _ (by rfl) #[(0, .pointer (some ⟨gt, 0, none⟩)), (1, .pointer (some ⟨gc, 0, none⟩)), (2, .map (some gb)), (3, .map (some gu))] _ (by simp only [List.map_toArray, List.map_cons, List.map_nil]; rfl) (bld_ch gt gc gb gu)) hH ?_
       change wpAnyH _ _ _ _ _ _ _ (Act.put _ (some 12) _) _
       simp only [Act.put, s0, s1, s2]
       have FIN := hide (ch_new TT6.out CC6.out MB6.out MU6.out GB.out GU.out ⟨(Ne.symm N_bm_gm.out), (Ne.symm N_bc_gm.out), (Ne.symm N_gb_gm.out), (Ne.symm N_gu_gm.out)⟩ ⟨(Ne.symm N_bm_gb.out), (Ne.symm N_bc_gb.out), (Ne.symm N_gu_gb.out)⟩ ⟨N_gu_bm.out, N_gu_bc.out⟩)
       refine wpAnyH_ready (rs := [11]) (by kernel_rfl) (by simp) (AllReadyH.cons rfl (fun K1 hK1 => ?_) AllReadyH.nil)
       refine step_run14 (by rfl) (ex_box14 _ (by rfl) (chA gt gc gb gu) (by rfl)) ?_
       refine hK1.out _ _ (below_next LW6.out ((Below.refl V6.heap.size V6).alloc (Nat.le_refl _) _)) (fun hH => ?_)
       clear hK1
       change wpAnyH _ _ _ _ _ _ _ (Act.put _ (some 13) _) _
       simp only [Act.put, s0, s1, s2]
       refine wt (i := 12) (v := (.pointer (some ⟨V6.heap.size, 0, none⟩))) rfl (.inl ⟨by rfl, fun W _ => by go_simp⟩) hH ?_
       change wpAnyH _ _ _ _ _ _ _ (Act.put _ (some 0) _) _
       simp only [Act.put, s0, s1, s2]
       refine wpAnyH_done (by kernel_rfl) ?_ _
       go_wp2
       go_ret
       exact ⟨_, _, _, _, _, _, _, _, _, rfl, FIN.out⟩
      ·have be := (Below.refl V4.heap.size V4).alloc (Nat.le_refl _) (.map #[] 0)
       have TT5 := hide (TT4.out.next be)
       have CC5 := hide (CC4.out.next be)
       have MB5 := hide (own_block MB4.out (be.block _ MB4.out.lt))
       have MU5 := hide (World.ownsMap_made (H := Unit) V4 Tryz.prog 46 unR)
       have LW5 := hide (below_next LW4.out be)
       have GU : Hid (w.heap.size ≤ V4.heap.size) := (below_next D2.out LW4.out).size
       have N_gu_gm := hide (ne17 TT4.out.map.lt (Nat.le_refl _))
       have N_gu_bm := hide (ne17 CC4.out.mp.lt (Nat.le_refl _))
       have N_gu_bc := hide (ne17 CC4.out.ct.lt (Nat.le_refl _))
       have N_gu_gb := hide (ne17 MB4.out.lt (Nat.le_refl _))
       clear be
       refine step_run14 (by rfl) (ex_mk17 (by rfl) (mk2.out V4)) ?_
       refine hK1.out _ _ LW5.out (fun hH => ?_)
       clear hK1
       change wpAnyH _ _ _ _ _ _ _ (Act.put _ (some 11) _) _
       simp only [Act.put, s0, s1, s2]
       generalize V4.alloc (.map #[] 0) = V5 at *
       generalize V4.heap.size = gu at *
       refine wpAnyH_ready (rs := [7]) (by kernel_rfl) (by simp) (AllReadyH.cons rfl (fun K1 hK1 => ?_) AllReadyH.nil)
       obtain ⟨V6, hrun, om, gr⟩ := MP1.out V5 gb MB5.out
       have fr := Frt.of_grown (S := fun g => g = gb) gr (by intro g e; cases e; rfl)
       have TT6 := hide (TT5.out.map17 MB5.out GB.out N_gb_gm.out fr)
       have CC6 := hide (CC5.out.map17 MB5.out GB.out (Ne.symm N_bm_gb.out) (Ne.symm N_bc_gb.out) fr)
       have MB6 := hide om
       have MU6 := hide (own_block MU5.out (fr.block _ MU5.out.lt N_gu_gb.out))
       have LW6 : Hid (Below W2.heap.size W2 V6) := ⟨fr.os.trans LW5.out.os, fr.tape.trans LW5.out.tape, fr.output.trans LW5.out.output, Nat.le_trans LW5.out.size fr.size, fun q hq => (fr.block q (Nat.lt_of_lt_of_le hq LW5.out.size) (by intro e; have := GB2.out; omega)).trans (LW5.out.block q hq)⟩
       refine step_skip14 (by rfl) (ex_ins _ _ _ _ (by rfl) _ _ _ (by rfl) (by rfl) (by rfl) hrun) ?_
       refine hK1.out _ _ LW6.out (fun hH => ?_)
       clear hK1 hrun om gr fr
       change wpAnyH _ _ _ _ _ _ _ (Act.put _ none _) _
       simp only [Act.put]
       refine wt (i := 8) (v := (.map (some gb))) rfl (yl_move (by rfl) _ (by rfl) _ (by rfl)) hH ?_
       change wpAnyH _ _ _ _ _ _ _ (Act.put _ (some 10) _) _
       simp only [Act.put, s0, s1, s2]
       refine wt (i := 10) (v := (.agg (chA gt gc gb gu))) rfl (yl_build (by rfl) _ (by rfl) #[(0, .pointer (some ⟨gt, 0, none⟩)), (1, .pointer (some ⟨gc, 0, none⟩)), (2, .map (some gb)), (3, .map (some gu))] _ (by simp only [List.map_toArray, List.map_cons, List.map_nil]; rfl) (bld_ch gt gc gb gu)) hH ?_
       change wpAnyH _ _ _ _ _ _ _ (Act.put _ (some 12) _) _
       simp only [Act.put, s0, s1, s2]
       have FIN := hide (ch_new TT6.out CC6.out MB6.out MU6.out GB.out GU.out ⟨(Ne.symm N_bm_gm.out), (Ne.symm N_bc_gm.out), (Ne.symm N_gb_gm.out), (Ne.symm N_gu_gm.out)⟩ ⟨(Ne.symm N_bm_gb.out), (Ne.symm N_bc_gb.out), (Ne.symm N_gu_gb.out)⟩ ⟨N_gu_bm.out, N_gu_bc.out⟩)
       refine wpAnyH_ready (rs := [11]) (by kernel_rfl) (by simp) (AllReadyH.cons rfl (fun K1 hK1 => ?_) AllReadyH.nil)
       refine step_run14 (by rfl) (ex_box14 _ (by rfl) (chA gt gc gb gu) (by rfl)) ?_
       refine hK1.out _ _ (below_next LW6.out ((Below.refl V6.heap.size V6).alloc (Nat.le_refl _) _)) (fun hH => ?_)
       clear hK1
       change wpAnyH _ _ _ _ _ _ _ (Act.put _ (some 13) _) _
       simp only [Act.put, s0, s1, s2]
       refine wt (i := 12) (v := (.pointer (some ⟨V6.heap.size, 0, none⟩))) rfl (.inl ⟨by rfl, fun W _ => by go_simp⟩) hH ?_
       change wpAnyH _ _ _ _ _ _ _ (Act.put _ (some 0) _) _
       simp only [Act.put, s0, s1, s2]
       refine wpAnyH_done (by kernel_rfl) ?_ _
       go_wp2
       go_ret
       exact ⟨_, _, _, _, _, _, _, _, _, rfl, FIN.out⟩
     ·have be := (Below.refl V3.heap.size V3).alloc (Nat.le_refl _) (.map #[] 0)
      have TT4 := hide (TT3.out.next be)
      have CC4 := hide (CC3.out.next be)
      have MB4 := hide (own_block MB3.out (be.block _ MB3.out.lt))
      have MU4 := hide (World.ownsMap_made (H := Unit) V3 Tryz.prog 46 unR)
      have LW4 := hide (below_next LW3.out be)
      have GU : Hid (w.heap.size ≤ V3.heap.size) := (below_next D2.out LW3.out).size
      have N_gu_gm := hide (ne17 TT3.out.map.lt (Nat.le_refl _))
      have N_gu_bm := hide (ne17 CC3.out.mp.lt (Nat.le_refl _))
      have N_gu_bc := hide (ne17 CC3.out.ct.lt (Nat.le_refl _))
      have N_gu_gb := hide (ne17 MB3.out.lt (Nat.le_refl _))
      clear be
      refine step_run14 (by rfl) (ex_mk17 (by rfl) (mk2.out V3)) ?_
      refine hK1.out _ _ LW4.out (fun hH => ?_)
      clear hK1
      change wpAnyH _ _ _ _ _ _ _ (Act.put _ (some 11) _) _
      simp only [Act.put, s0, s1, s2]
      generalize V3.alloc (.map #[] 0) = V4 at *
      generalize V3.heap.size = gu at *
      refine wpAnyH_ready (rs := [5]) (by kernel_rfl) (by simp) (AllReadyH.cons rfl (fun K1 hK1 => ?_) AllReadyH.nil)
      go_simp
      refine (HI.out V4 (KS.out _ (below_next D2.out LW4.out))).mono ?_
      rintro r V5 ⟨rfl, be⟩
      have TT5 := hide (TT4.out.next be)
      have CC5 := hide (CC4.out.next be)
      have MB5 := hide (own_block MB4.out (be.block _ MB4.out.lt))
      have MU5 := hide (own_block MU4.out (be.block _ MU4.out.lt))
      have LW5 := hide (below_next LW4.out be)
      clear be
      refine hK1.out _ _ LW5.out (fun hH => ?_)
      clear hK1
      refine wpAnyH_ready (rs := [7]) (by kernel_rfl) (by simp) (AllReadyH.cons rfl (fun K1 hK1 => ?_) AllReadyH.nil)
      obtain ⟨V6, hrun, om, gr⟩ := MP1.out V5 gb MB5.out
      have fr := Frt.of_grown (S := fun g => g = gb) gr (by intro g e; cases e; rfl)
      have TT6 := hide (TT5.out.map17 MB5.out GB.out N_gb_gm.out fr)
      have CC6 := hide (CC5.out.map17 MB5.out GB.out (Ne.symm N_bm_gb.out) (Ne.symm N_bc_gb.out) fr)
      have MB6 := hide om
      have MU6 := hide (own_block MU5.out (fr.block _ MU5.out.lt N_gu_gb.out))
      have LW6 : Hid (Below W2.heap.size W2 V6) := ⟨fr.os.trans LW5.out.os, fr.tape.trans LW5.out.tape, fr.output.trans LW5.out.output, Nat.le_trans LW5.out.size fr.size, fun q hq => (fr.block q (Nat.lt_of_lt_of_le hq LW5.out.size) (by intro e; have := GB2.out; omega)).trans (LW5.out.block q hq)⟩
      refine step_skip14 (by rfl) (ex_ins _ _ _ _ (by rfl) _ _ _ (by rfl) (by rfl) (by rfl) hrun) ?_
      refine hK1.out _ _ LW6.out (fun hH => ?_)
      clear hK1 hrun om gr fr
      change wpAnyH _ _ _ _ _ _ _ (Act.put _ none _) _
      simp only [Act.put]
      refine wt (i := 8) (v := (.map (some gb))) rfl (yl_move (by rfl) _ (by rfl) _ (by rfl)) hH ?_
      change wpAnyH _ _ _ _ _ _ _ (Act.put _ (some 10) _) _
      simp only [Act.put, s0, s1, s2]
      refine wt (i := 10) (v := (.agg (chA gt gc gb gu))) rfl (yl_build (by rfl) _ (by rfl) #[(0, .pointer (some ⟨gt, 0, none⟩)), (1, .pointer (some ⟨gc, 0, none⟩)), (2, .map (some gb)), (3, .map (some gu))] _ (by simp only [List.map_toArray, List.map_cons, List.map_nil]; rfl) (bld_ch gt gc gb gu)) hH ?_
      change wpAnyH _ _ _ _ _ _ _ (Act.put _ (some 12) _) _
      simp only [Act.put, s0, s1, s2]
      have FIN := hide (ch_new TT6.out CC6.out MB6.out MU6.out GB.out GU.out ⟨(Ne.symm N_bm_gm.out), (Ne.symm N_bc_gm.out), (Ne.symm N_gb_gm.out), (Ne.symm N_gu_gm.out)⟩ ⟨(Ne.symm N_bm_gb.out), (Ne.symm N_bc_gb.out), (Ne.symm N_gu_gb.out)⟩ ⟨N_gu_bm.out, N_gu_bc.out⟩)
      refine wpAnyH_ready (rs := [11]) (by kernel_rfl) (by simp) (AllReadyH.cons rfl (fun K1 hK1 => ?_) AllReadyH.nil)
      refine step_run14 (by rfl) (ex_box14 _ (by rfl) (chA gt gc gb gu) (by rfl)) ?_
      refine hK1.out _ _ (below_next LW6.out ((Below.refl V6.heap.size V6).alloc (Nat.le_refl _) _)) (fun hH => ?_)
      clear hK1
      change wpAnyH _ _ _ _ _ _ _ (Act.put _ (some 13) _) _
      simp only [Act.put, s0, s1, s2]
      refine wt (i := 12) (v := (.pointer (some ⟨V6.heap.size, 0, none⟩))) rfl (.inl ⟨by rfl, fun W _ => by go_simp⟩) hH ?_
      change wpAnyH _ _ _ _ _ _ _ (Act.put _ (some 0) _) _
      simp only [Act.put, s0, s1, s2]
      refine wpAnyH_done (by kernel_rfl) ?_ _
      go_wp2
      go_ret
      exact ⟨_, _, _, _, _, _, _, _, _, rfl, FIN.out⟩
    ·have be := (Below.refl V2.heap.size V2).alloc (Nat.le_refl _) (.map #[] 0)
     have TT3 := hide (TT2.out.next be)
     have MB3 := hide (own_block MB2.out (be.block _ MB2.out.lt))
     have MU3 := hide (World.ownsMap_made (H := Unit) V2 Tryz.prog 46 unR)
     have LW3 := hide (below_next LW2.out be)
     have GU : Hid (w.heap.size ≤ V2.heap.size) := (below_next D2.out LW2.out).size
     have N_gu_gm := hide (ne17 TT2.out.map.lt (Nat.le_refl _))
     have N_gu_gb := hide (ne17 MB2.out.lt (Nat.le_refl _))
     clear be
     refine step_run14 (by rfl) (ex_mk17 (by rfl) (mk2.out V2)) ?_
     refine hK1.out _ _ LW3.out (fun hH => ?_)
     clear hK1
     change wpAnyH _ _ _ _ _ _ _ (Act.put _ (some 11) _) _
     simp only [Act.put, s0, s1, s2]
     generalize V2.alloc (.map #[] 0) = V3 at *
     generalize V2.heap.size = gu at *
     refine wpAnyH_ready (rs := [1]) (by kernel_rfl) (by simp) (AllReadyH.cons rfl (fun K1 hK1 => ?_) AllReadyH.nil)
     go_simp
     refine (HC.out V3 (KS.out _ (below_next D2.out LW3.out))).mono ?_
     rintro r V4 ⟨gc, bm, bc, rfl, c0⟩
     have be := c0.bel
     have CC4 := hide (c0.base (below_next D2.out LW3.out))
     have TT4 := hide (TT3.out.next be)
     have MB4 := hide (own_block MB3.out (be.block _ MB3.out.lt))
     have MU4 := hide (own_block MU3.out (be.block _ MU3.out.lt))
     have N_bm_gm := hide (ne17 TT3.out.map.lt c0.b1)
     have N_bm_gb := hide (ne17 MB3.out.lt c0.b1)
     have N_bm_gu := hide (ne17 MU3.out.lt c0.b1)
     have N_bc_gm := hide (ne17 TT3.out.map.lt c0.b2)
     have N_bc_gb := hide (ne17 MB3.out.lt c0.b2)
     have N_bc_gu := hide (ne17 MU3.out.lt c0.b2)
     have LW4 := hide (below_next LW3.out be)
     clear c0 be
     refine hK1.out _ _ LW4.out (fun hH => ?_)
     clear hK1
     refine wpAnyH_ready (rs := [5]) (by kernel_rfl) (by simp) (AllReadyH.cons rfl (fun K1 hK1 => ?_) AllReadyH.nil)
     go_simp
     refine (HI.out V4 (KS.out _ (below_next D2.out LW4.out))).mono ?_
     rintro r V5 ⟨rfl, be⟩
     have TT5 := hide (TT4.out.next be)
     have CC5 := hide (CC4.out.next be)
     have MB5 := hide (own_block MB4.out (be.block _ MB4.out.lt))
     have MU5 := hide (own_block MU4.out (be.block _ MU4.out.lt))
     have LW5 := hide (below_next LW4.out be)
     clear be
     refine hK1.out _ _ LW5.out (fun hH => ?_)
     clear hK1
     refine wpAnyH_ready (rs := [7]) (by kernel_rfl) (by simp) (AllReadyH.cons rfl (fun K1 hK1 => ?_) AllReadyH.nil)
     obtain ⟨V6, hrun, om, gr⟩ := MP1.out V5 gb MB5.out
     have fr := Frt.of_grown (S := fun g => g = gb) gr (by intro g e; cases e; rfl)
     have TT6 := hide (TT5.out.map17 MB5.out GB.out N_gb_gm.out fr)
     have CC6 := hide (CC5.out.map17 MB5.out GB.out (Ne.symm N_bm_gb.out) (Ne.symm N_bc_gb.out) fr)
     have MB6 := hide om
     have MU6 := hide (own_block MU5.out (fr.block _ MU5.out.lt N_gu_gb.out))
     have LW6 : Hid (Below W2.heap.size W2 V6) := ⟨fr.os.trans LW5.out.os, fr.tape.trans LW5.out.tape, fr.output.trans LW5.out.output, Nat.le_trans LW5.out.size fr.size, fun q hq => (fr.block q (Nat.lt_of_lt_of_le hq LW5.out.size) (by intro e; have := GB2.out; omega)).trans (LW5.out.block q hq)⟩
     refine step_skip14 (by rfl) (ex_ins _ _ _ _ (by rfl) _ _ _ (by rfl) (by rfl) (by rfl) hrun) ?_
     refine hK1.out _ _ LW6.out (fun hH => ?_)
     clear hK1 hrun om gr fr
     change wpAnyH _ _ _ _ _ _ _ (Act.put _ none _) _
     simp only [Act.put]
     refine wt (i := 8) (v := (.map (some gb))) rfl (yl_move (by rfl) _ (by rfl) _ (by rfl)) hH ?_
     change wpAnyH _ _ _ _ _ _ _ (Act.put _ (some 10) _) _
     simp only [Act.put, s0, s1, s2]
     refine wt (i := 10) (v := (.agg (chA gt gc gb gu))) rfl (yl_build (by rfl) _ (by rfl) #[(0, .pointer (some ⟨gt, 0, none⟩)), (1, .pointer (some ⟨gc, 0, none⟩)), (2, .map (some gb)), (3, .map (some gu))] _ (by simp only [List.map_toArray, List.map_cons, List.map_nil]; rfl) (bld_ch gt gc gb gu)) hH ?_
     change wpAnyH _ _ _ _ _ _ _ (Act.put _ (some 12) _) _
     simp only [Act.put, s0, s1, s2]
     have FIN := hide (ch_new TT6.out CC6.out MB6.out MU6.out GB.out GU.out ⟨(Ne.symm N_bm_gm.out), (Ne.symm N_bc_gm.out), (Ne.symm N_gb_gm.out), (Ne.symm N_gu_gm.out)⟩ ⟨(Ne.symm N_bm_gb.out), (Ne.symm N_bc_gb.out), (Ne.symm N_gu_gb.out)⟩ ⟨(Ne.symm N_bm_gu.out), (Ne.symm N_bc_gu.out)⟩)
     refine wpAnyH_ready (rs := [11]) (by kernel_rfl) (by simp) (AllReadyH.cons rfl (fun K1 hK1 => ?_) AllReadyH.nil)
     refine step_run14 (by rfl) (ex_box14 _ (by rfl) (chA gt gc gb gu) (by rfl)) ?_
     refine hK1.out _ _ (below_next LW6.out ((Below.refl V6.heap.size V6).alloc (Nat.le_refl _) _)) (fun hH => ?_)
     clear hK1
     change wpAnyH _ _ _ _ _ _ _ (Act.put _ (some 13) _) _
     simp only [Act.put, s0, s1, s2]
     refine wt (i := 12) (v := (.pointer (some ⟨V6.heap.size, 0, none⟩))) rfl (.inl ⟨by rfl, fun W _ => by go_simp⟩) hH ?_
     change wpAnyH _ _ _ _ _ _ _ (Act.put _ (some 0) _) _
     simp only [Act.put, s0, s1, s2]
     refine wpAnyH_done (by kernel_rfl) ?_ _
     go_wp2
     go_ret
     exact ⟨_, _, _, _, _, _, _, _, _, rfl, FIN.out⟩
   ·have be := (Below.refl V1.heap.size V1).alloc (Nat.le_refl _) (.map #[] 0)
    have TT2 := hide (TT1.out.next be)
    have MU2 := hide (World.ownsMap_made (H := Unit) V1 Tryz.prog 46 unR)
    have LW2 := hide (below_next LW1.out be)
    have GU : Hid (w.heap.size ≤ V1.heap.size) := (below_next D2.out LW1.out).size
    have N_gu_gm := hide (ne17 TT1.out.map.lt (Nat.le_refl _))
    clear be
    refine step_run14 (by rfl) (ex_mk17 (by rfl) (mk2.out V1)) ?_
    refine hK1.out _ _ LW2.out (fun hH => ?_)
    clear hK1
    change wpAnyH _ _ _ _ _ _ _ (Act.put _ (some 11) _) _
    simp only [Act.put, s0, s1, s2]
    generalize V1.alloc (.map #[] 0) = V2 at *
    generalize V1.heap.size = gu at *
    refine wpAnyH_ready (rs := [1, 2]) (by kernel_rfl) (by simp) (AllReadyH.cons rfl (fun K1 hK1 => ?_) (AllReadyH.cons rfl (fun K1 hK1 => ?_) AllReadyH.nil))
    ·go_simp
     refine (HC.out V2 (KS.out _ (below_next D2.out LW2.out))).mono ?_
     rintro r V3 ⟨gc, bm, bc, rfl, c0⟩
     have be := c0.bel
     have CC3 := hide (c0.base (below_next D2.out LW2.out))
     have TT3 := hide (TT2.out.next be)
     have MU3 := hide (own_block MU2.out (be.block _ MU2.out.lt))
     have N_bm_gm := hide (ne17 TT2.out.map.lt c0.b1)
     have N_bm_gu := hide (ne17 MU2.out.lt c0.b1)
     have N_bc_gm := hide (ne17 TT2.out.map.lt c0.b2)
     have N_bc_gu := hide (ne17 MU2.out.lt c0.b2)
     have LW3 := hide (below_next LW2.out be)
     clear c0 be
     refine hK1.out _ _ LW3.out (fun hH => ?_)
     clear hK1
     refine wpAnyH_ready (rs := [2, 5]) (by kernel_rfl) (by simp) (AllReadyH.cons rfl (fun K1 hK1 => ?_) (AllReadyH.cons rfl (fun K1 hK1 => ?_) AllReadyH.nil))
     ·have be := (Below.refl V3.heap.size V3).alloc (Nat.le_refl _) (.map #[] 0)
      have TT4 := hide (TT3.out.next be)
      have CC4 := hide (CC3.out.next be)
      have MU4 := hide (own_block MU3.out (be.block _ MU3.out.lt))
      have MB4 := hide (World.ownsMap_made (H := Unit) V3 Tryz.prog 46 boR)
      have LW4 := hide (below_next LW3.out be)
      have GB : Hid (w.heap.size ≤ V3.heap.size) := (below_next D2.out LW3.out).size
      have GB2 : Hid (W2.heap.size ≤ V3.heap.size) := LW3.out.size
      have N_gb_gm := hide (ne17 TT3.out.map.lt (Nat.le_refl _))
      have N_gb_bm := hide (ne17 CC3.out.mp.lt (Nat.le_refl _))
      have N_gb_bc := hide (ne17 CC3.out.ct.lt (Nat.le_refl _))
      have N_gb_gu := hide (ne17 MU3.out.lt (Nat.le_refl _))
      clear be
      refine step_run14 (by rfl) (ex_mk17 (by rfl) (mk1.out V3)) ?_
      refine hK1.out _ _ LW4.out (fun hH => ?_)
      clear hK1
      change wpAnyH _ _ _ _ _ _ _ (Act.put _ (some 5) _) _
      simp only [Act.put, s0, s1, s2]
      generalize V3.alloc (.map #[] 0) = V4 at *
      generalize V3.heap.size = gb at *
      refine wpAnyH_ready (rs := [5]) (by kernel_rfl) (by simp) (AllReadyH.cons rfl (fun K1 hK1 => ?_) AllReadyH.nil)
      go_simp
      refine (HI.out V4 (KS.out _ (below_next D2.out LW4.out))).mono ?_
      rintro r V5 ⟨rfl, be⟩
      have TT5 := hide (TT4.out.next be)
      have CC5 := hide (CC4.out.next be)
      have MB5 := hide (own_block MB4.out (be.block _ MB4.out.lt))
      have MU5 := hide (own_block MU4.out (be.block _ MU4.out.lt))
      have LW5 := hide (below_next LW4.out be)
      clear be
      refine hK1.out _ _ LW5.out (fun hH => ?_)
      clear hK1
      refine wpAnyH_ready (rs := [7]) (by kernel_rfl) (by simp) (AllReadyH.cons rfl (fun K1 hK1 => ?_) AllReadyH.nil)
      obtain ⟨V6, hrun, om, gr⟩ := MP1.out V5 gb MB5.out
      have fr := Frt.of_grown (S := fun g => g = gb) gr (by intro g e; cases e; rfl)
      have TT6 := hide (TT5.out.map17 MB5.out GB.out N_gb_gm.out fr)
      have CC6 := hide (CC5.out.map17 MB5.out GB.out N_gb_bm.out N_gb_bc.out fr)
      have MB6 := hide om
      have MU6 := hide (own_block MU5.out (fr.block _ MU5.out.lt (Ne.symm N_gb_gu.out)))
      have LW6 : Hid (Below W2.heap.size W2 V6) := ⟨fr.os.trans LW5.out.os, fr.tape.trans LW5.out.tape, fr.output.trans LW5.out.output, Nat.le_trans LW5.out.size fr.size, fun q hq => (fr.block q (Nat.lt_of_lt_of_le hq LW5.out.size) (by intro e; have := GB2.out; omega)).trans (LW5.out.block q hq)⟩
      refine step_skip14 (by rfl) (ex_ins _ _ _ _ (by rfl) _ _ _ (by rfl) (by rfl) (by rfl) hrun) ?_
      refine hK1.out _ _ LW6.out (fun hH => ?_)
      clear hK1 hrun om gr fr
      change wpAnyH _ _ _ _ _ _ _ (Act.put _ none _) _
      simp only [Act.put]
      refine wt (i := 8) (v := (.map (some gb))) rfl (yl_move (by rfl) _ (by rfl) _ (by rfl)) hH ?_
      change wpAnyH _ _ _ _ _ _ _ (Act.put _ (some 10) _) _
      simp only [Act.put, s0, s1, s2]
      refine wt (i := 10) (v := (.agg (chA gt gc gb gu))) rfl (yl_build (by rfl) _ (by rfl) #[(0, .pointer (some ⟨gt, 0, none⟩)), (1, .pointer (some ⟨gc, 0, none⟩)), (2, .map (some gb)), (3, .map (some gu))] _ (by simp only [List.map_toArray, List.map_cons, List.map_nil]; rfl) (bld_ch gt gc gb gu)) hH ?_
      change wpAnyH _ _ _ _ _ _ _ (Act.put _ (some 12) _) _
      simp only [Act.put, s0, s1, s2]
      have FIN := hide (ch_new TT6.out CC6.out MB6.out MU6.out GB.out GU.out ⟨(Ne.symm N_bm_gm.out), (Ne.symm N_bc_gm.out), (Ne.symm N_gb_gm.out), (Ne.symm N_gu_gm.out)⟩ ⟨N_gb_bm.out, N_gb_bc.out, N_gb_gu.out⟩ ⟨(Ne.symm N_bm_gu.out), (Ne.symm N_bc_gu.out)⟩)
      refine wpAnyH_ready (rs := [11]) (by kernel_rfl) (by simp) (AllReadyH.cons rfl (fun K1 hK1 => ?_) AllReadyH.nil)
      refine step_run14 (by rfl) (ex_box14 _ (by rfl) (chA gt gc gb gu) (by rfl)) ?_
      refine hK1.out _ _ (below_next LW6.out ((Below.refl V6.heap.size V6).alloc (Nat.le_refl _) _)) (fun hH => ?_)
      clear hK1
      change wpAnyH _ _ _ _ _ _ _ (Act.put _ (some 13) _) _
      simp only [Act.put, s0, s1, s2]
      refine wt (i := 12) (v := (.pointer (some ⟨V6.heap.size, 0, none⟩))) rfl (.inl ⟨by rfl, fun W _ => by go_simp⟩) hH ?_
      change wpAnyH _ _ _ _ _ _ _ (Act.put _ (some 0) _) _
      simp only [Act.put, s0, s1, s2]
      refine wpAnyH_done (by kernel_rfl) ?_ _
      go_wp2
      go_ret
      exact ⟨_, _, _, _, _, _, _, _, _, rfl, FIN.out⟩
     ·go_simp
      refine (HI.out V3 (KS.out _ (below_next D2.out LW3.out))).mono ?_
      rintro r V4 ⟨rfl, be⟩
      have TT4 := hide (TT3.out.next be)
      have CC4 := hide (CC3.out.next be)
      have MU4 := hide (own_block MU3.out (be.block _ MU3.out.lt))
      have LW4 := hide (below_next LW3.out be)
      clear be
      refine hK1.out _ _ LW4.out (fun hH => ?_)
      clear hK1
      refine wpAnyH_ready (rs := [2]) (by kernel_rfl) (by simp) (AllReadyH.cons rfl (fun K1 hK1 => ?_) AllReadyH.nil)
      have be := (Below.refl V4.heap.size V4).alloc (Nat.le_refl _) (.map #[] 0)
      have TT5 := hide (TT4.out.next be)
      have CC5 := hide (CC4.out.next be)
      have MU5 := hide (own_block MU4.out (be.block _ MU4.out.lt))
      have MB5 := hide (World.ownsMap_made (H := Unit) V4 Tryz.prog 46 boR)
      have LW5 := hide (below_next LW4.out be)
      have GB : Hid (w.heap.size ≤ V4.heap.size) := (below_next D2.out LW4.out).size
      have GB2 : Hid (W2.heap.size ≤ V4.heap.size) := LW4.out.size
      have N_gb_gm := hide (ne17 TT4.out.map.lt (Nat.le_refl _))
      have N_gb_bm := hide (ne17 CC4.out.mp.lt (Nat.le_refl _))
      have N_gb_bc := hide (ne17 CC4.out.ct.lt (Nat.le_refl _))
      have N_gb_gu := hide (ne17 MU4.out.lt (Nat.le_refl _))
      clear be
      refine step_run14 (by rfl) (ex_mk17 (by rfl) (mk1.out V4)) ?_
      refine hK1.out _ _ LW5.out (fun hH => ?_)
      clear hK1
      change wpAnyH _ _ _ _ _ _ _ (Act.put _ (some 5) _) _
      simp only [Act.put, s0, s1, s2]
      generalize V4.alloc (.map #[] 0) = V5 at *
      generalize V4.heap.size = gb at *
      refine wpAnyH_ready (rs := [7]) (by kernel_rfl) (by simp) (AllReadyH.cons rfl (fun K1 hK1 => ?_) AllReadyH.nil)
      obtain ⟨V6, hrun, om, gr⟩ := MP1.out V5 gb MB5.out
      have fr := Frt.of_grown (S := fun g => g = gb) gr (by intro g e; cases e; rfl)
      have TT6 := hide (TT5.out.map17 MB5.out GB.out N_gb_gm.out fr)
      have CC6 := hide (CC5.out.map17 MB5.out GB.out N_gb_bm.out N_gb_bc.out fr)
      have MB6 := hide om
      have MU6 := hide (own_block MU5.out (fr.block _ MU5.out.lt (Ne.symm N_gb_gu.out)))
      have LW6 : Hid (Below W2.heap.size W2 V6) := ⟨fr.os.trans LW5.out.os, fr.tape.trans LW5.out.tape, fr.output.trans LW5.out.output, Nat.le_trans LW5.out.size fr.size, fun q hq => (fr.block q (Nat.lt_of_lt_of_le hq LW5.out.size) (by intro e; have := GB2.out; omega)).trans (LW5.out.block q hq)⟩
      refine step_skip14 (by rfl) (ex_ins _ _ _ _ (by rfl) _ _ _ (by rfl) (by rfl) (by rfl) hrun) ?_
      refine hK1.out _ _ LW6.out (fun hH => ?_)
      clear hK1 hrun om gr fr
      change wpAnyH _ _ _ _ _ _ _ (Act.put _ none _) _
      simp only [Act.put]
      refine wt (i := 8) (v := (.map (some gb))) rfl (yl_move (by rfl) _ (by rfl) _ (by rfl)) hH ?_
      change wpAnyH _ _ _ _ _ _ _ (Act.put _ (some 10) _) _
      simp only [Act.put, s0, s1, s2]
      refine wt (i := 10) (v := (.agg (chA gt gc gb gu))) rfl (yl_build (by rfl) _ (by rfl) #[(0, .pointer (some ⟨gt, 0, none⟩)), (1, .pointer (some ⟨gc, 0, none⟩)), (2, .map (some gb)), (3, .map (some gu))] _ (by simp only [List.map_toArray, List.map_cons, List.map_nil]; rfl) (bld_ch gt gc gb gu)) hH ?_
      change wpAnyH _ _ _ _ _ _ _ (Act.put _ (some 12) _) _
      simp only [Act.put, s0, s1, s2]
      have FIN := hide (ch_new TT6.out CC6.out MB6.out MU6.out GB.out GU.out ⟨(Ne.symm N_bm_gm.out), (Ne.symm N_bc_gm.out), (Ne.symm N_gb_gm.out), (Ne.symm N_gu_gm.out)⟩ ⟨N_gb_bm.out, N_gb_bc.out, N_gb_gu.out⟩ ⟨(Ne.symm N_bm_gu.out), (Ne.symm N_bc_gu.out)⟩)
      refine wpAnyH_ready (rs := [11]) (by kernel_rfl) (by simp) (AllReadyH.cons rfl (fun K1 hK1 => ?_) AllReadyH.nil)
      refine step_run14 (by rfl) (ex_box14 _ (by rfl) (chA gt gc gb gu) (by rfl)) ?_
      refine hK1.out _ _ (below_next LW6.out ((Below.refl V6.heap.size V6).alloc (Nat.le_refl _) _)) (fun hH => ?_)
      clear hK1
      change wpAnyH _ _ _ _ _ _ _ (Act.put _ (some 13) _) _
      simp only [Act.put, s0, s1, s2]
      refine wt (i := 12) (v := (.pointer (some ⟨V6.heap.size, 0, none⟩))) rfl (.inl ⟨by rfl, fun W _ => by go_simp⟩) hH ?_
      change wpAnyH _ _ _ _ _ _ _ (Act.put _ (some 0) _) _
      simp only [Act.put, s0, s1, s2]
      refine wpAnyH_done (by kernel_rfl) ?_ _
      go_wp2
      go_ret
      exact ⟨_, _, _, _, _, _, _, _, _, rfl, FIN.out⟩
    ·have be := (Below.refl V2.heap.size V2).alloc (Nat.le_refl _) (.map #[] 0)
     have TT3 := hide (TT2.out.next be)
     have MU3 := hide (own_block MU2.out (be.block _ MU2.out.lt))
     have MB3 := hide (World.ownsMap_made (H := Unit) V2 Tryz.prog 46 boR)
     have LW3 := hide (below_next LW2.out be)
     have GB : Hid (w.heap.size ≤ V2.heap.size) := (below_next D2.out LW2.out).size
     have GB2 : Hid (W2.heap.size ≤ V2.heap.size) := LW2.out.size
     have N_gb_gm := hide (ne17 TT2.out.map.lt (Nat.le_refl _))
     have N_gb_gu := hide (ne17 MU2.out.lt (Nat.le_refl _))
     clear be
     refine step_run14 (by rfl) (ex_mk17 (by rfl) (mk1.out V2)) ?_
     refine hK1.out _ _ LW3.out (fun hH => ?_)
     clear hK1
     change wpAnyH _ _ _ _ _ _ _ (Act.put _ (some 5) _) _
     simp only [Act.put, s0, s1, s2]
     generalize V2.alloc (.map #[] 0) = V3 at *
     generalize V2.heap.size = gb at *
     refine wpAnyH_ready (rs := [1]) (by kernel_rfl) (by simp) (AllReadyH.cons rfl (fun K1 hK1 => ?_) AllReadyH.nil)
     go_simp
     refine (HC.out V3 (KS.out _ (below_next D2.out LW3.out))).mono ?_
     rintro r V4 ⟨gc, bm, bc, rfl, c0⟩
     have be := c0.bel
     have CC4 := hide (c0.base (below_next D2.out LW3.out))
     have TT4 := hide (TT3.out.next be)
     have MB4 := hide (own_block MB3.out (be.block _ MB3.out.lt))
     have MU4 := hide (own_block MU3.out (be.block _ MU3.out.lt))
     have N_bm_gm := hide (ne17 TT3.out.map.lt c0.b1)
     have N_bm_gb := hide (ne17 MB3.out.lt c0.b1)
     have N_bm_gu := hide (ne17 MU3.out.lt c0.b1)
     have N_bc_gm := hide (ne17 TT3.out.map.lt c0.b2)
     have N_bc_gb := hide (ne17 MB3.out.lt c0.b2)
     have N_bc_gu := hide (ne17 MU3.out.lt c0.b2)
     have LW4 := hide (below_next LW3.out be)
     clear c0 be
     refine hK1.out _ _ LW4.out (fun hH => ?_)
     clear hK1
     refine wpAnyH_ready (rs := [5]) (by kernel_rfl) (by simp) (AllReadyH.cons rfl (fun K1 hK1 => ?_) AllReadyH.nil)
     go_simp
     refine (HI.out V4 (KS.out _ (below_next D2.out LW4.out))).mono ?_
     rintro r V5 ⟨rfl, be⟩
     have TT5 := hide (TT4.out.next be)
     have CC5 := hide (CC4.out.next be)
     have MB5 := hide (own_block MB4.out (be.block _ MB4.out.lt))
     have MU5 := hide (own_block MU4.out (be.block _ MU4.out.lt))
     have LW5 := hide (below_next LW4.out be)
     clear be
     refine hK1.out _ _ LW5.out (fun hH => ?_)
     clear hK1
     refine wpAnyH_ready (rs := [7]) (by kernel_rfl) (by simp) (AllReadyH.cons rfl (fun K1 hK1 => ?_) AllReadyH.nil)
     obtain ⟨V6, hrun, om, gr⟩ := MP1.out V5 gb MB5.out
     have fr := Frt.of_grown (S := fun g => g = gb) gr (by intro g e; cases e; rfl)
     have TT6 := hide (TT5.out.map17 MB5.out GB.out N_gb_gm.out fr)
     have CC6 := hide (CC5.out.map17 MB5.out GB.out (Ne.symm N_bm_gb.out) (Ne.symm N_bc_gb.out) fr)
     have MB6 := hide om
     have MU6 := hide (own_block MU5.out (fr.block _ MU5.out.lt (Ne.symm N_gb_gu.out)))
     have LW6 : Hid (Below W2.heap.size W2 V6) := ⟨fr.os.trans LW5.out.os, fr.tape.trans LW5.out.tape, fr.output.trans LW5.out.output, Nat.le_trans LW5.out.size fr.size, fun q hq => (fr.block q (Nat.lt_of_lt_of_le hq LW5.out.size) (by intro e; have := GB2.out; omega)).trans (LW5.out.block q hq)⟩
     refine step_skip14 (by rfl) (ex_ins _ _ _ _ (by rfl) _ _ _ (by rfl) (by rfl) (by rfl) hrun) ?_
     refine hK1.out _ _ LW6.out (fun hH => ?_)
     clear hK1 hrun om gr fr
     change wpAnyH _ _ _ _ _ _ _ (Act.put _ none _) _
     simp only [Act.put]
     refine wt (i := 8) (v := (.map (some gb))) rfl (yl_move (by rfl) _ (by rfl) _ (by rfl)) hH ?_
     change wpAnyH _ _ _ _ _ _ _ (Act.put _ (some 10) _) _
     simp only [Act.put, s0, s1, s2]
     refine wt (i := 10) (v := (.agg (chA gt gc gb gu))) rfl (yl_build (by rfl) _ (by rfl) #[(0, .pointer (some ⟨gt, 0, none⟩)), (1, .pointer (some ⟨gc, 0, none⟩)), (2, .map (some gb)), (3, .map (some gu))] _ (by simp only [List.map_toArray, List.map_cons, List.map_nil]; rfl) (bld_ch gt gc gb gu)) hH ?_
     change wpAnyH _ _ _ _ _ _ _ (Act.put _ (some 12) _) _
     simp only [Act.put, s0, s1, s2]
     have FIN := hide (ch_new TT6.out CC6.out MB6.out MU6.out GB.out GU.out ⟨(Ne.symm N_bm_gm.out), (Ne.symm N_bc_gm.out), (Ne.symm N_gb_gm.out), (Ne.symm N_gu_gm.out)⟩ ⟨(Ne.symm N_bm_gb.out), (Ne.symm N_bc_gb.out), N_gb_gu.out⟩ ⟨(Ne.symm N_bm_gu.out), (Ne.symm N_bc_gu.out)⟩)
     refine wpAnyH_ready (rs := [11]) (by kernel_rfl) (by simp) (AllReadyH.cons rfl (fun K1 hK1 => ?_) AllReadyH.nil)
     refine step_run14 (by rfl) (ex_box14 _ (by rfl) (chA gt gc gb gu) (by rfl)) ?_
     refine hK1.out _ _ (below_next LW6.out ((Below.refl V6.heap.size V6).alloc (Nat.le_refl _) _)) (fun hH => ?_)
     clear hK1
     change wpAnyH _ _ _ _ _ _ _ (Act.put _ (some 13) _) _
     simp only [Act.put, s0, s1, s2]
     refine wt (i := 12) (v := (.pointer (some ⟨V6.heap.size, 0, none⟩))) rfl (.inl ⟨by rfl, fun W _ => by go_simp⟩) hH ?_
     change wpAnyH _ _ _ _ _ _ _ (Act.put _ (some 0) _) _
     simp only [Act.put, s0, s1, s2]
     refine wpAnyH_done (by kernel_rfl) ?_ _
     go_wp2
     go_ret
     exact ⟨_, _, _, _, _, _, _, _, _, rfl, FIN.out⟩
  ·have be := (Below.refl V0.heap.size V0).alloc (Nat.le_refl _) (.map #[] 0)
   have MB1 := hide (World.ownsMap_made (H := Unit) V0 Tryz.prog 46 boR)
   have LW1 := hide (below_next LW0.out be)
   have GB : Hid (w.heap.size ≤ V0.heap.size) := (below_next D2.out LW0.out).size
   have GB2 : Hid (W2.heap.size ≤ V0.heap.size) := LW0.out.size
   clear be
   refine step_run14 (by rfl) (ex_mk17 (by rfl) (mk1.out V0)) ?_
   refine hK1.out _ _ LW1.out (fun hH => ?_)
   clear hK1
   change wpAnyH _ _ _ _ _ _ _ (Act.put _ (some 5) _) _
   simp only [Act.put, s0, s1, s2]
   generalize V0.alloc (.map #[] 0) = V1 at *
   generalize V0.heap.size = gb at *
   refine wpAnyH_ready (rs := [0, 9]) (by kernel_rfl) (by simp) (AllReadyH.cons rfl (fun K1 hK1 => ?_) (AllReadyH.cons rfl (fun K1 hK1 => ?_) AllReadyH.nil))
   ·go_simp
    refine (HT.out V1 (KS.out _ (below_next D2.out LW1.out))).mono ?_
    rintro r V2 ⟨gt, gm, ve, rfl, t0⟩
    have be := t0.bel
    have TT2 := hide (t0.base (below_next D2.out LW1.out))
    have MB2 := hide (own_block MB1.out (be.block _ MB1.out.lt))
    have N_gm_gb := hide (ne17 MB1.out.lt t0.bm)
    have LW2 := hide (below_next LW1.out be)
    clear t0 be
    refine hK1.out _ _ LW2.out (fun hH => ?_)
    clear hK1
    refine wpAnyH_ready (rs := [1, 9]) (by kernel_rfl) (by simp) (AllReadyH.cons rfl (fun K1 hK1 => ?_) (AllReadyH.cons rfl (fun K1 hK1 => ?_) AllReadyH.nil))
    ·go_simp
     refine (HC.out V2 (KS.out _ (below_next D2.out LW2.out))).mono ?_
     rintro r V3 ⟨gc, bm, bc, rfl, c0⟩
     have be := c0.bel
     have CC3 := hide (c0.base (below_next D2.out LW2.out))
     have TT3 := hide (TT2.out.next be)
     have MB3 := hide (own_block MB2.out (be.block _ MB2.out.lt))
     have N_bm_gm := hide (ne17 TT2.out.map.lt c0.b1)
     have N_bm_gb := hide (ne17 MB2.out.lt c0.b1)
     have N_bc_gm := hide (ne17 TT2.out.map.lt c0.b2)
     have N_bc_gb := hide (ne17 MB2.out.lt c0.b2)
     have LW3 := hide (below_next LW2.out be)
     clear c0 be
     refine hK1.out _ _ LW3.out (fun hH => ?_)
     clear hK1
     refine wpAnyH_ready (rs := [5, 9]) (by kernel_rfl) (by simp) (AllReadyH.cons rfl (fun K1 hK1 => ?_) (AllReadyH.cons rfl (fun K1 hK1 => ?_) AllReadyH.nil))
     ·go_simp
      refine (HI.out V3 (KS.out _ (below_next D2.out LW3.out))).mono ?_
      rintro r V4 ⟨rfl, be⟩
      have TT4 := hide (TT3.out.next be)
      have CC4 := hide (CC3.out.next be)
      have MB4 := hide (own_block MB3.out (be.block _ MB3.out.lt))
      have LW4 := hide (below_next LW3.out be)
      clear be
      refine hK1.out _ _ LW4.out (fun hH => ?_)
      clear hK1
      refine wpAnyH_ready (rs := [7, 9]) (by kernel_rfl) (by simp) (AllReadyH.cons rfl (fun K1 hK1 => ?_) (AllReadyH.cons rfl (fun K1 hK1 => ?_) AllReadyH.nil))
      ·obtain ⟨V5, hrun, om, gr⟩ := MP1.out V4 gb MB4.out
       have fr := Frt.of_grown (S := fun g => g = gb) gr (by intro g e; cases e; rfl)
       have TT5 := hide (TT4.out.map17 MB4.out GB.out (Ne.symm N_gm_gb.out) fr)
       have CC5 := hide (CC4.out.map17 MB4.out GB.out (Ne.symm N_bm_gb.out) (Ne.symm N_bc_gb.out) fr)
       have MB5 := hide om
       have LW5 : Hid (Below W2.heap.size W2 V5) := ⟨fr.os.trans LW4.out.os, fr.tape.trans LW4.out.tape, fr.output.trans LW4.out.output, Nat.le_trans LW4.out.size fr.size, fun q hq => (fr.block q (Nat.lt_of_lt_of_le hq LW4.out.size) (by intro e; have := GB2.out; omega)).trans (LW4.out.block q hq)⟩
       refine step_skip14 (by rfl) (ex_ins _ _ _ _ (by rfl) _ _ _ (by rfl) (by rfl) (by rfl) hrun) ?_
       refine hK1.out _ _ LW5.out (fun hH => ?_)
       clear hK1 hrun om gr fr
       change wpAnyH _ _ _ _ _ _ _ (Act.put _ none _) _
       simp only [Act.put]
       refine wt (i := 8) (v := (.map (some gb))) rfl (yl_move (by rfl) _ (by rfl) _ (by rfl)) hH ?_
       change wpAnyH _ _ _ _ _ _ _ (Act.put _ (some 10) _) _
       simp only [Act.put, s0, s1, s2]
       refine wpAnyH_ready (rs := [9]) (by kernel_rfl) (by simp) (AllReadyH.cons rfl (fun K1 hK1 => ?_) AllReadyH.nil)
       have be := (Below.refl V5.heap.size V5).alloc (Nat.le_refl _) (.map #[] 0)
       have TT6 := hide (TT5.out.next be)
       have CC6 := hide (CC5.out.next be)
       have MB6 := hide (own_block MB5.out (be.block _ MB5.out.lt))
       have MU6 := hide (World.ownsMap_made (H := Unit) V5 Tryz.prog 46 unR)
       have LW6 := hide (below_next LW5.out be)
       have GU : Hid (w.heap.size ≤ V5.heap.size) := (below_next D2.out LW5.out).size
       have N_gu_gm := hide (ne17 TT5.out.map.lt (Nat.le_refl _))
       have N_gu_bm := hide (ne17 CC5.out.mp.lt (Nat.le_refl _))
       have N_gu_bc := hide (ne17 CC5.out.ct.lt (Nat.le_refl _))
       have N_gu_gb := hide (ne17 MB5.out.lt (Nat.le_refl _))
       clear be
       refine step_run14 (by rfl) (ex_mk17 (by rfl) (mk2.out V5)) ?_
       refine hK1.out _ _ LW6.out (fun hH => ?_)
       clear hK1
       change wpAnyH _ _ _ _ _ _ _ (Act.put _ (some 11) _) _
       simp only [Act.put, s0, s1, s2]
       generalize V5.alloc (.map #[] 0) = V6 at *
       generalize V5.heap.size = gu at *
       refine wt (i := 10) (v := (.agg (chA gt gc gb gu))) rfl (yl_build (by rfl) _ (by rfl) #[(0, .pointer (some ⟨gt, 0, none⟩)), (1, .pointer (some ⟨gc, 0, none⟩)), (2, .map (some gb)), (3, .map (some gu))] _ (by simp only [List.map_toArray, List.map_cons, List.map_nil]; rfl) (bld_ch gt gc gb gu)) hH ?_
       change wpAnyH _ _ _ _ _ _ _ (Act.put _ (some 12) _) _
       simp only [Act.put, s0, s1, s2]
       have FIN := hide (ch_new TT6.out CC6.out MB6.out MU6.out GB.out GU.out ⟨(Ne.symm N_bm_gm.out), (Ne.symm N_bc_gm.out), N_gm_gb.out, (Ne.symm N_gu_gm.out)⟩ ⟨(Ne.symm N_bm_gb.out), (Ne.symm N_bc_gb.out), (Ne.symm N_gu_gb.out)⟩ ⟨N_gu_bm.out, N_gu_bc.out⟩)
       refine wpAnyH_ready (rs := [11]) (by kernel_rfl) (by simp) (AllReadyH.cons rfl (fun K1 hK1 => ?_) AllReadyH.nil)
       refine step_run14 (by rfl) (ex_box14 _ (by rfl) (chA gt gc gb gu) (by rfl)) ?_
       refine hK1.out _ _ (below_next LW6.out ((Below.refl V6.heap.size V6).alloc (Nat.le_refl _) _)) (fun hH => ?_)
       clear hK1
       change wpAnyH _ _ _ _ _ _ _ (Act.put _ (some 13) _) _
       simp only [Act.put, s0, s1, s2]
       refine wt (i := 12) (v := (.pointer (some ⟨V6.heap.size, 0, none⟩))) rfl (.inl ⟨by rfl, fun W _ => by go_simp⟩) hH ?_
       change wpAnyH _ _ _ _ _ _ _ (Act.put _ (some 0) _) _
       simp only [Act.put, s0, s1, s2]
       refine wpAnyH_done (by kernel_rfl) ?_ _
       go_wp2
       go_ret
       exact ⟨_, _, _, _, _, _, _, _, _, rfl, FIN.out⟩
      ·have be := (Below.refl V4.heap.size V4).alloc (Nat.le_refl _) (.map #[] 0)
       have TT5 := hide (TT4.out.next be)
       have CC5 := hide (CC4.out.next be)
       have MB5 := hide (own_block MB4.out (be.block _ MB4.out.lt))
       have MU5 := hide (World.ownsMap_made (H := Unit) V4 Tryz.prog 46 unR)
       have LW5 := hide (below_next LW4.out be)
       have GU : Hid (w.heap.size ≤ V4.heap.size) := (below_next D2.out LW4.out).size
       have N_gu_gm := hide (ne17 TT4.out.map.lt (Nat.le_refl _))
       have N_gu_bm := hide (ne17 CC4.out.mp.lt (Nat.le_refl _))
       have N_gu_bc := hide (ne17 CC4.out.ct.lt (Nat.le_refl _))
       have N_gu_gb := hide (ne17 MB4.out.lt (Nat.le_refl _))
       clear be
       refine step_run14 (by rfl) (ex_mk17 (by rfl) (mk2.out V4)) ?_
       refine hK1.out _ _ LW5.out (fun hH => ?_)
       clear hK1
       change wpAnyH _ _ _ _ _ _ _ (Act.put _ (some 11) _) _
       simp only [Act.put, s0, s1, s2]
       generalize V4.alloc (.map #[] 0) = V5 at *
       generalize V4.heap.size = gu at *
       refine wpAnyH_ready (rs := [7]) (by kernel_rfl) (by simp) (AllReadyH.cons rfl (fun K1 hK1 => ?_) AllReadyH.nil)
       obtain ⟨V6, hrun, om, gr⟩ := MP1.out V5 gb MB5.out
       have fr := Frt.of_grown (S := fun g => g = gb) gr (by intro g e; cases e; rfl)
       have TT6 := hide (TT5.out.map17 MB5.out GB.out (Ne.symm N_gm_gb.out) fr)
       have CC6 := hide (CC5.out.map17 MB5.out GB.out (Ne.symm N_bm_gb.out) (Ne.symm N_bc_gb.out) fr)
       have MB6 := hide om
       have MU6 := hide (own_block MU5.out (fr.block _ MU5.out.lt N_gu_gb.out))
       have LW6 : Hid (Below W2.heap.size W2 V6) := ⟨fr.os.trans LW5.out.os, fr.tape.trans LW5.out.tape, fr.output.trans LW5.out.output, Nat.le_trans LW5.out.size fr.size, fun q hq => (fr.block q (Nat.lt_of_lt_of_le hq LW5.out.size) (by intro e; have := GB2.out; omega)).trans (LW5.out.block q hq)⟩
       refine step_skip14 (by rfl) (ex_ins _ _ _ _ (by rfl) _ _ _ (by rfl) (by rfl) (by rfl) hrun) ?_
       refine hK1.out _ _ LW6.out (fun hH => ?_)
       clear hK1 hrun om gr fr
       change wpAnyH _ _ _ _ _ _ _ (Act.put _ none _) _
       simp only [Act.put]
       refine wt (i := 8) (v := (.map (some gb))) rfl (yl_move (by rfl) _ (by rfl) _ (by rfl)) hH ?_
       change wpAnyH _ _ _ _ _ _ _ (Act.put _ (some 10) _) _
       simp only [Act.put, s0, s1, s2]
       refine wt (i := 10) (v := (.agg (chA gt gc gb gu))) rfl (yl_build (by rfl) _ (by rfl) #[(0, .pointer (some ⟨gt, 0, none⟩)), (1, .pointer (some ⟨gc, 0, none⟩)), (2, .map (some gb)), (3, .map (some gu))] _ (by simp only [List.map_toArray, List.map_cons, List.map_nil]; rfl) (bld_ch gt gc gb gu)) hH ?_
       change wpAnyH _ _ _ _ _ _ _ (Act.put _ (some 12) _) _
       simp only [Act.put, s0, s1, s2]
       have FIN := hide (ch_new TT6.out CC6.out MB6.out MU6.out GB.out GU.out ⟨(Ne.symm N_bm_gm.out), (Ne.symm N_bc_gm.out), N_gm_gb.out, (Ne.symm N_gu_gm.out)⟩ ⟨(Ne.symm N_bm_gb.out), (Ne.symm N_bc_gb.out), (Ne.symm N_gu_gb.out)⟩ ⟨N_gu_bm.out, N_gu_bc.out⟩)
       refine wpAnyH_ready (rs := [11]) (by kernel_rfl) (by simp) (AllReadyH.cons rfl (fun K1 hK1 => ?_) AllReadyH.nil)
       refine step_run14 (by rfl) (ex_box14 _ (by rfl) (chA gt gc gb gu) (by rfl)) ?_
       refine hK1.out _ _ (below_next LW6.out ((Below.refl V6.heap.size V6).alloc (Nat.le_refl _) _)) (fun hH => ?_)
       clear hK1
       change wpAnyH _ _ _ _ _ _ _ (Act.put _ (some 13) _) _
       simp only [Act.put, s0, s1, s2]
       refine wt (i := 12) (v := (.pointer (some ⟨V6.heap.size, 0, none⟩))) rfl (.inl ⟨by rfl, fun W _ => by go_simp⟩) hH ?_
       change wpAnyH _ _ _ _ _ _ _ (Act.put _ (some 0) _) _
       simp only [Act.put, s0, s1, s2]
       refine wpAnyH_done (by kernel_rfl) ?_ _
       go_wp2
       go_ret
       exact ⟨_, _, _, _, _, _, _, _, _, rfl, FIN.out⟩
     ·have be := (Below.refl V3.heap.size V3).alloc (Nat.le_refl _) (.map #[] 0)
      have TT4 := hide (TT3.out.next be)
      have CC4 := hide (CC3.out.next be)
      have MB4 := hide (own_block MB3.out (be.block _ MB3.out.lt))
      have MU4 := hide (World.ownsMap_made (H := Unit) V3 Tryz.prog 46 unR)
      have LW4 := hide (below_next LW3.out be)
      have GU : Hid (w.heap.size ≤ V3.heap.size) := (below_next D2.out LW3.out).size
      have N_gu_gm := hide (ne17 TT3.out.map.lt (Nat.le_refl _))
      have N_gu_bm := hide (ne17 CC3.out.mp.lt (Nat.le_refl _))
      have N_gu_bc := hide (ne17 CC3.out.ct.lt (Nat.le_refl _))
      have N_gu_gb := hide (ne17 MB3.out.lt (Nat.le_refl _))
      clear be
      refine step_run14 (by rfl) (ex_mk17 (by rfl) (mk2.out V3)) ?_
      refine hK1.out _ _ LW4.out (fun hH => ?_)
      clear hK1
      change wpAnyH _ _ _ _ _ _ _ (Act.put _ (some 11) _) _
      simp only [Act.put, s0, s1, s2]
      generalize V3.alloc (.map #[] 0) = V4 at *
      generalize V3.heap.size = gu at *
      refine wpAnyH_ready (rs := [5]) (by kernel_rfl) (by simp) (AllReadyH.cons rfl (fun K1 hK1 => ?_) AllReadyH.nil)
      go_simp
      refine (HI.out V4 (KS.out _ (below_next D2.out LW4.out))).mono ?_
      rintro r V5 ⟨rfl, be⟩
      have TT5 := hide (TT4.out.next be)
      have CC5 := hide (CC4.out.next be)
      have MB5 := hide (own_block MB4.out (be.block _ MB4.out.lt))
      have MU5 := hide (own_block MU4.out (be.block _ MU4.out.lt))
      have LW5 := hide (below_next LW4.out be)
      clear be
      refine hK1.out _ _ LW5.out (fun hH => ?_)
      clear hK1
      refine wpAnyH_ready (rs := [7]) (by kernel_rfl) (by simp) (AllReadyH.cons rfl (fun K1 hK1 => ?_) AllReadyH.nil)
      obtain ⟨V6, hrun, om, gr⟩ := MP1.out V5 gb MB5.out
      have fr := Frt.of_grown (S := fun g => g = gb) gr (by intro g e; cases e; rfl)
      have TT6 := hide (TT5.out.map17 MB5.out GB.out (Ne.symm N_gm_gb.out) fr)
      have CC6 := hide (CC5.out.map17 MB5.out GB.out (Ne.symm N_bm_gb.out) (Ne.symm N_bc_gb.out) fr)
      have MB6 := hide om
      have MU6 := hide (own_block MU5.out (fr.block _ MU5.out.lt N_gu_gb.out))
      have LW6 : Hid (Below W2.heap.size W2 V6) := ⟨fr.os.trans LW5.out.os, fr.tape.trans LW5.out.tape, fr.output.trans LW5.out.output, Nat.le_trans LW5.out.size fr.size, fun q hq => (fr.block q (Nat.lt_of_lt_of_le hq LW5.out.size) (by intro e; have := GB2.out; omega)).trans (LW5.out.block q hq)⟩
      refine step_skip14 (by rfl) (ex_ins _ _ _ _ (by rfl) _ _ _ (by rfl) (by rfl) (by rfl) hrun) ?_
      refine hK1.out _ _ LW6.out (fun hH => ?_)
      clear hK1 hrun om gr fr
      change wpAnyH _ _ _ _ _ _ _ (Act.put _ none _) _
      simp only [Act.put]
      refine wt (i := 8) (v := (.map (some gb))) rfl (yl_move (by rfl) _ (by rfl) _ (by rfl)) hH ?_
      change wpAnyH _ _ _ _ _ _ _ (Act.put _ (some 10) _) _
      simp only [Act.put, s0, s1, s2]
      refine wt (i := 10) (v := (.agg (chA gt gc gb gu))) rfl (yl_build (by rfl) _ (by rfl) #[(0, .pointer (some ⟨gt, 0, none⟩)), (1, .pointer (some ⟨gc, 0, none⟩)), (2, .map (some gb)), (3, .map (some gu))] _ (by simp only [List.map_toArray, List.map_cons, List.map_nil]; rfl) (bld_ch gt gc gb gu)) hH ?_
      change wpAnyH _ _ _ _ _ _ _ (Act.put _ (some 12) _) _
      simp only [Act.put, s0, s1, s2]
      have FIN := hide (ch_new TT6.out CC6.out MB6.out MU6.out GB.out GU.out ⟨(Ne.symm N_bm_gm.out), (Ne.symm N_bc_gm.out), N_gm_gb.out, (Ne.symm N_gu_gm.out)⟩ ⟨(Ne.symm N_bm_gb.out), (Ne.symm N_bc_gb.out), (Ne.symm N_gu_gb.out)⟩ ⟨N_gu_bm.out, N_gu_bc.out⟩)
      refine wpAnyH_ready (rs := [11]) (by kernel_rfl) (by simp) (AllReadyH.cons rfl (fun K1 hK1 => ?_) AllReadyH.nil)
      refine step_run14 (by rfl) (ex_box14 _ (by rfl) (chA gt gc gb gu) (by rfl)) ?_
      refine hK1.out _ _ (below_next LW6.out ((Below.refl V6.heap.size V6).alloc (Nat.le_refl _) _)) (fun hH => ?_)
      clear hK1
      change wpAnyH _ _ _ _ _ _ _ (Act.put _ (some 13) _) _
      simp only [Act.put, s0, s1, s2]
      refine wt (i := 12) (v := (.pointer (some ⟨V6.heap.size, 0, none⟩))) rfl (.inl ⟨by rfl, fun W _ => by go_simp⟩) hH ?_
      change wpAnyH _ _ _ _ _ _ _ (Act.put _ (some 0) _) _
      simp only [Act.put, s0, s1, s2]
      refine wpAnyH_done (by kernel_rfl) ?_ _
      go_wp2
      go_ret
      exact ⟨_, _, _, _, _, _, _, _, _, rfl, FIN.out⟩
    ·have be := (Below.refl V2.heap.size V2).alloc (Nat.le_refl _) (.map #[] 0)
     have TT3 := hide (TT2.out.next be)
     have MB3 := hide (own_block MB2.out (be.block _ MB2.out.lt))
     have MU3 := hide (World.ownsMap_made (H := Unit) V2 Tryz.prog 46 unR)
     have LW3 := hide (below_next LW2.out be)
     have GU : Hid (w.heap.size ≤ V2.heap.size) := (below_next D2.out LW2.out).size
     have N_gu_gm := hide (ne17 TT2.out.map.lt (Nat.le_refl _))
     have N_gu_gb := hide (ne17 MB2.out.lt (Nat.le_refl _))
     clear be
     refine step_run14 (by rfl) (ex_mk17 (by rfl) (mk2.out V2)) ?_
     refine hK1.out _ _ LW3.out (fun hH => ?_)
     clear hK1
     change wpAnyH _ _ _ _ _ _ _ (Act.put _ (some 11) _) _
     simp only [Act.put, s0, s1, s2]
     generalize V2.alloc (.map #[] 0) = V3 at *
     generalize V2.heap.size = gu at *
     refine wpAnyH_ready (rs := [1]) (by kernel_rfl) (by simp) (AllReadyH.cons rfl (fun K1 hK1 => ?_) AllReadyH.nil)
     go_simp
     refine (HC.out V3 (KS.out _ (below_next D2.out LW3.out))).mono ?_
     rintro r V4 ⟨gc, bm, bc, rfl, c0⟩
     have be := c0.bel
     have CC4 := hide (c0.base (below_next D2.out LW3.out))
     have TT4 := hide (TT3.out.next be)
     have MB4 := hide (own_block MB3.out (be.block _ MB3.out.lt))
     have MU4 := hide (own_block MU3.out (be.block _ MU3.out.lt))
     have N_bm_gm := hide (ne17 TT3.out.map.lt c0.b1)
     have N_bm_gb := hide (ne17 MB3.out.lt c0.b1)
     have N_bm_gu := hide (ne17 MU3.out.lt c0.b1)
     have N_bc_gm := hide (ne17 TT3.out.map.lt c0.b2)
     have N_bc_gb := hide (ne17 MB3.out.lt c0.b2)
     have N_bc_gu := hide (ne17 MU3.out.lt c0.b2)
     have LW4 := hide (below_next LW3.out be)
     clear c0 be
     refine hK1.out _ _ LW4.out (fun hH => ?_)
     clear hK1
     refine wpAnyH_ready (rs := [5]) (by kernel_rfl) (by simp) (AllReadyH.cons rfl (fun K1 hK1 => ?_) AllReadyH.nil)
     go_simp
     refine (HI.out V4 (KS.out _ (below_next D2.out LW4.out))).mono ?_
     rintro r V5 ⟨rfl, be⟩
     have TT5 := hide (TT4.out.next be)
     have CC5 := hide (CC4.out.next be)
     have MB5 := hide (own_block MB4.out (be.block _ MB4.out.lt))
     have MU5 := hide (own_block MU4.out (be.block _ MU4.out.lt))
     have LW5 := hide (below_next LW4.out be)
     clear be
     refine hK1.out _ _ LW5.out (fun hH => ?_)
     clear hK1
     refine wpAnyH_ready (rs := [7]) (by kernel_rfl) (by simp) (AllReadyH.cons rfl (fun K1 hK1 => ?_) AllReadyH.nil)
     obtain ⟨V6, hrun, om, gr⟩ := MP1.out V5 gb MB5.out
     have fr := Frt.of_grown (S := fun g => g = gb) gr (by intro g e; cases e; rfl)
     have TT6 := hide (TT5.out.map17 MB5.out GB.out (Ne.symm N_gm_gb.out) fr)
     have CC6 := hide (CC5.out.map17 MB5.out GB.out (Ne.symm N_bm_gb.out) (Ne.symm N_bc_gb.out) fr)
     have MB6 := hide om
     have MU6 := hide (own_block MU5.out (fr.block _ MU5.out.lt N_gu_gb.out))
     have LW6 : Hid (Below W2.heap.size W2 V6) := ⟨fr.os.trans LW5.out.os, fr.tape.trans LW5.out.tape, fr.output.trans LW5.out.output, Nat.le_trans LW5.out.size fr.size, fun q hq => (fr.block q (Nat.lt_of_lt_of_le hq LW5.out.size) (by intro e; have := GB2.out; omega)).trans (LW5.out.block q hq)⟩
     refine step_skip14 (by rfl) (ex_ins _ _ _ _ (by rfl) _ _ _ (by rfl) (by rfl) (by rfl) hrun) ?_
     refine hK1.out _ _ LW6.out (fun hH => ?_)
     clear hK1 hrun om gr fr
     change wpAnyH _ _ _ _ _ _ _ (Act.put _ none _) _
     simp only [Act.put]
     refine wt (i := 8) (v := (.map (some gb))) rfl (yl_move (by rfl) _ (by rfl) _ (by rfl)) hH ?_
     change wpAnyH _ _ _ _ _ _ _ (Act.put _ (some 10) _) _
     simp only [Act.put, s0, s1, s2]
     refine wt (i := 10) (v := (.agg (chA gt gc gb gu))) rfl (yl_build (by rfl) _ (by rfl) #[(0, .pointer (some ⟨gt, 0, none⟩)), (1, .pointer (some ⟨gc, 0, none⟩)), (2, .map (some gb)), (3, .map (some gu))] _ (by simp only [List.map_toArray, List.map_cons, List.map_nil]; rfl) (bld_ch gt gc gb gu)) hH ?_
     change wpAnyH _ _ _ _ _ _ _ (Act.put _ (some 12) _) _
     simp only [Act.put, s0, s1, s2]
     have FIN := hide (ch_new TT6.out CC6.out MB6.out MU6.out GB.out GU.out ⟨(Ne.symm N_bm_gm.out), (Ne.symm N_bc_gm.out), N_gm_gb.out, (Ne.symm N_gu_gm.out)⟩ ⟨(Ne.symm N_bm_gb.out), (Ne.symm N_bc_gb.out), (Ne.symm N_gu_gb.out)⟩ ⟨(Ne.symm N_bm_gu.out), (Ne.symm N_bc_gu.out)⟩)
     refine wpAnyH_ready (rs := [11]) (by kernel_rfl) (by simp) (AllReadyH.cons rfl (fun K1 hK1 => ?_) AllReadyH.nil)
     refine step_run14 (by rfl) (ex_box14 _ (by rfl) (chA gt gc gb gu) (by rfl)) ?_
     refine hK1.out _ _ (below_next LW6.out ((Below.refl V6.heap.size V6).alloc (Nat.le_refl _) _)) (fun hH => ?_)
     clear hK1
     change wpAnyH _ _ _ _ _ _ _ (Act.put _ (some 13) _) _
     simp only [Act.put, s0, s1, s2]
     refine wt (i := 12) (v := (.pointer (some ⟨V6.heap.size, 0, none⟩))) rfl (.inl ⟨by rfl, fun W _ => by go_simp⟩) hH ?_
     change wpAnyH _ _ _ _ _ _ _ (Act.put _ (some 0) _) _
     simp only [Act.put, s0, s1, s2]
     refine wpAnyH_done (by kernel_rfl) ?_ _
     go_wp2
     go_ret
     exact ⟨_, _, _, _, _, _, _, _, _, rfl, FIN.out⟩
   ·have be := (Below.refl V1.heap.size V1).alloc (Nat.le_refl _) (.map #[] 0)
    have MB2 := hide (own_block MB1.out (be.block _ MB1.out.lt))
    have MU2 := hide (World.ownsMap_made (H := Unit) V1 Tryz.prog 46 unR)
    have LW2 := hide (below_next LW1.out be)
    have GU : Hid (w.heap.size ≤ V1.heap.size) := (below_next D2.out LW1.out).size
    have N_gu_gb := hide (ne17 MB1.out.lt (Nat.le_refl _))
    clear be
    refine step_run14 (by rfl) (ex_mk17 (by rfl) (mk2.out V1)) ?_
    refine hK1.out _ _ LW2.out (fun hH => ?_)
    clear hK1
    change wpAnyH _ _ _ _ _ _ _ (Act.put _ (some 11) _) _
    simp only [Act.put, s0, s1, s2]
    generalize V1.alloc (.map #[] 0) = V2 at *
    generalize V1.heap.size = gu at *
    refine wpAnyH_ready (rs := [0]) (by kernel_rfl) (by simp) (AllReadyH.cons rfl (fun K1 hK1 => ?_) AllReadyH.nil)
    go_simp
    refine (HT.out V2 (KS.out _ (below_next D2.out LW2.out))).mono ?_
    rintro r V3 ⟨gt, gm, ve, rfl, t0⟩
    have be := t0.bel
    have TT3 := hide (t0.base (below_next D2.out LW2.out))
    have MB3 := hide (own_block MB2.out (be.block _ MB2.out.lt))
    have MU3 := hide (own_block MU2.out (be.block _ MU2.out.lt))
    have N_gm_gb := hide (ne17 MB2.out.lt t0.bm)
    have N_gm_gu := hide (ne17 MU2.out.lt t0.bm)
    have LW3 := hide (below_next LW2.out be)
    clear t0 be
    refine hK1.out _ _ LW3.out (fun hH => ?_)
    clear hK1
    refine wpAnyH_ready (rs := [1]) (by kernel_rfl) (by simp) (AllReadyH.cons rfl (fun K1 hK1 => ?_) AllReadyH.nil)
    go_simp
    refine (HC.out V3 (KS.out _ (below_next D2.out LW3.out))).mono ?_
    rintro r V4 ⟨gc, bm, bc, rfl, c0⟩
    have be := c0.bel
    have CC4 := hide (c0.base (below_next D2.out LW3.out))
    have TT4 := hide (TT3.out.next be)
    have MB4 := hide (own_block MB3.out (be.block _ MB3.out.lt))
    have MU4 := hide (own_block MU3.out (be.block _ MU3.out.lt))
    have N_bm_gm := hide (ne17 TT3.out.map.lt c0.b1)
    have N_bm_gb := hide (ne17 MB3.out.lt c0.b1)
    have N_bm_gu := hide (ne17 MU3.out.lt c0.b1)
    have N_bc_gm := hide (ne17 TT3.out.map.lt c0.b2)
    have N_bc_gb := hide (ne17 MB3.out.lt c0.b2)
    have N_bc_gu := hide (ne17 MU3.out.lt c0.b2)
    have LW4 := hide (below_next LW3.out be)
    clear c0 be
    refine hK1.out _ _ LW4.out (fun hH => ?_)
    clear hK1
    refine wpAnyH_ready (rs := [5]) (by kernel_rfl) (by simp) (AllReadyH.cons rfl (fun K1 hK1 => ?_) AllReadyH.nil)
    go_simp
    refine (HI.out V4 (KS.out _ (below_next D2.out LW4.out))).mono ?_
    rintro r V5 ⟨rfl, be⟩
    have TT5 := hide (TT4.out.next be)
    have CC5 := hide (CC4.out.next be)
    have MB5 := hide (own_block MB4.out (be.block _ MB4.out.lt))
    have MU5 := hide (own_block MU4.out (be.block _ MU4.out.lt))
    have LW5 := hide (below_next LW4.out be)
    clear be
    refine hK1.out _ _ LW5.out (fun hH => ?_)
    clear hK1
    refine wpAnyH_ready (rs := [7]) (by kernel_rfl) (by simp) (AllReadyH.cons rfl (fun K1 hK1 => ?_) AllReadyH.nil)
    obtain ⟨V6, hrun, om, gr⟩ := MP1.out V5 gb MB5.out
    have fr := Frt.of_grown (S := fun g => g = gb) gr (by intro g e; cases e; rfl)
    have TT6 := hide (TT5.out.map17 MB5.out GB.out (Ne.symm N_gm_gb.out) fr)
    have CC6 := hide (CC5.out.map17 MB5.out GB.out (Ne.symm N_bm_gb.out) (Ne.symm N_bc_gb.out) fr)
    have MB6 := hide om
    have MU6 := hide (own_block MU5.out (fr.block _ MU5.out.lt N_gu_gb.out))
    have LW6 : Hid (Below W2.heap.size W2 V6) := ⟨fr.os.trans LW5.out.os, fr.tape.trans LW5.out.tape, fr.output.trans LW5.out.output, Nat.le_trans LW5.out.size fr.size, fun q hq => (fr.block q (Nat.lt_of_lt_of_le hq LW5.out.size) (by intro e; have := GB2.out; omega)).trans (LW5.out.block q hq)⟩
    refine step_skip14 (by rfl) (ex_ins _ _ _ _ (by rfl) _ _ _ (by rfl) (by rfl) (by rfl) hrun) ?_
    refine hK1.out _ _ LW6.out (fun hH => ?_)
    clear hK1 hrun om gr fr
    change wpAnyH _ _ _ _ _ _ _ (Act.put _ none _) _
    simp only [Act.put]
    refine wt (i := 8) (v := (.map (some gb))) rfl (yl_move (by rfl) _ (by rfl) _ (by rfl)) hH ?_
    change wpAnyH _ _ _ _ _ _ _ (Act.put _ (some 10) _) _
    simp only [Act.put, s0, s1, s2]
    refine wt (i := 10) (v := (.agg (chA gt gc gb gu))) rfl (yl_build (by rfl) _ (by rfl) #[(0, .pointer (some ⟨gt, 0, none⟩)), (1, .pointer (some ⟨gc, 0, none⟩)), (2, .map (some gb)), (3, .map (some gu))] _ (by simp only [List.map_toArray, List.map_cons, List.map_nil]; rfl) (bld_ch gt gc gb gu)) hH ?_
    change wpAnyH _ _ _ _ _ _ _ (Act.put _ (some 12) _) _
    simp only [Act.put, s0, s1, s2]
    have FIN := hide (ch_new TT6.out CC6.out MB6.out MU6.out GB.out GU.out ⟨(Ne.symm N_bm_gm.out), (Ne.symm N_bc_gm.out), N_gm_gb.out, N_gm_gu.out⟩ ⟨(Ne.symm N_bm_gb.out), (Ne.symm N_bc_gb.out), (Ne.symm N_gu_gb.out)⟩ ⟨(Ne.symm N_bm_gu.out), (Ne.symm N_bc_gu.out)⟩)
    refine wpAnyH_ready (rs := [11]) (by kernel_rfl) (by simp) (AllReadyH.cons rfl (fun K1 hK1 => ?_) AllReadyH.nil)
    refine step_run14 (by rfl) (ex_box14 _ (by rfl) (chA gt gc gb gu) (by rfl)) ?_
    refine hK1.out _ _ (below_next LW6.out ((Below.refl V6.heap.size V6).alloc (Nat.le_refl _) _)) (fun hH => ?_)
    clear hK1
    change wpAnyH _ _ _ _ _ _ _ (Act.put _ (some 13) _) _
    simp only [Act.put, s0, s1, s2]
    refine wt (i := 12) (v := (.pointer (some ⟨V6.heap.size, 0, none⟩))) rfl (.inl ⟨by rfl, fun W _ => by go_simp⟩) hH ?_
    change wpAnyH _ _ _ _ _ _ _ (Act.put _ (some 0) _) _
    simp only [Act.put, s0, s1, s2]
    refine wpAnyH_done (by kernel_rfl) ?_ _
    go_wp2
    go_ret
    exact ⟨_, _, _, _, _, _, _, _, _, rfl, FIN.out⟩
  ·have be := (Below.refl V0.heap.size V0).alloc (Nat.le_refl _) (.map #[] 0)
   have MU1 := hide (World.ownsMap_made (H := Unit) V0 Tryz.prog 46 unR)
   have LW1 := hide (below_next LW0.out be)
   have GU : Hid (w.heap.size ≤ V0.heap.size) := (below_next D2.out LW0.out).size
   clear be
   refine step_run14 (by rfl) (ex_mk17 (by rfl) (mk2.out V0)) ?_
   refine hK1.out _ _ LW1.out (fun hH => ?_)
   clear hK1
   change wpAnyH _ _ _ _ _ _ _ (Act.put _ (some 11) _) _
   simp only [Act.put, s0, s1, s2]
   generalize V0.alloc (.map #[] 0) = V1 at *
   generalize V0.heap.size = gu at *
   refine wpAnyH_ready (rs := [0, 2]) (by kernel_rfl) (by simp) (AllReadyH.cons rfl (fun K1 hK1 => ?_) (AllReadyH.cons rfl (fun K1 hK1 => ?_) AllReadyH.nil))
   ·go_simp
    refine (HT.out V1 (KS.out _ (below_next D2.out LW1.out))).mono ?_
    rintro r V2 ⟨gt, gm, ve, rfl, t0⟩
    have be := t0.bel
    have TT2 := hide (t0.base (below_next D2.out LW1.out))
    have MU2 := hide (own_block MU1.out (be.block _ MU1.out.lt))
    have N_gm_gu := hide (ne17 MU1.out.lt t0.bm)
    have LW2 := hide (below_next LW1.out be)
    clear t0 be
    refine hK1.out _ _ LW2.out (fun hH => ?_)
    clear hK1
    refine wpAnyH_ready (rs := [1, 2]) (by kernel_rfl) (by simp) (AllReadyH.cons rfl (fun K1 hK1 => ?_) (AllReadyH.cons rfl (fun K1 hK1 => ?_) AllReadyH.nil))
    ·go_simp
     refine (HC.out V2 (KS.out _ (below_next D2.out LW2.out))).mono ?_
     rintro r V3 ⟨gc, bm, bc, rfl, c0⟩
     have be := c0.bel
     have CC3 := hide (c0.base (below_next D2.out LW2.out))
     have TT3 := hide (TT2.out.next be)
     have MU3 := hide (own_block MU2.out (be.block _ MU2.out.lt))
     have N_bm_gm := hide (ne17 TT2.out.map.lt c0.b1)
     have N_bm_gu := hide (ne17 MU2.out.lt c0.b1)
     have N_bc_gm := hide (ne17 TT2.out.map.lt c0.b2)
     have N_bc_gu := hide (ne17 MU2.out.lt c0.b2)
     have LW3 := hide (below_next LW2.out be)
     clear c0 be
     refine hK1.out _ _ LW3.out (fun hH => ?_)
     clear hK1
     refine wpAnyH_ready (rs := [2, 5]) (by kernel_rfl) (by simp) (AllReadyH.cons rfl (fun K1 hK1 => ?_) (AllReadyH.cons rfl (fun K1 hK1 => ?_) AllReadyH.nil))
     ·have be := (Below.refl V3.heap.size V3).alloc (Nat.le_refl _) (.map #[] 0)
      have TT4 := hide (TT3.out.next be)
      have CC4 := hide (CC3.out.next be)
      have MU4 := hide (own_block MU3.out (be.block _ MU3.out.lt))
      have MB4 := hide (World.ownsMap_made (H := Unit) V3 Tryz.prog 46 boR)
      have LW4 := hide (below_next LW3.out be)
      have GB : Hid (w.heap.size ≤ V3.heap.size) := (below_next D2.out LW3.out).size
      have GB2 : Hid (W2.heap.size ≤ V3.heap.size) := LW3.out.size
      have N_gb_gm := hide (ne17 TT3.out.map.lt (Nat.le_refl _))
      have N_gb_bm := hide (ne17 CC3.out.mp.lt (Nat.le_refl _))
      have N_gb_bc := hide (ne17 CC3.out.ct.lt (Nat.le_refl _))
      have N_gb_gu := hide (ne17 MU3.out.lt (Nat.le_refl _))
      clear be
      refine step_run14 (by rfl) (ex_mk17 (by rfl) (mk1.out V3)) ?_
      refine hK1.out _ _ LW4.out (fun hH => ?_)
      clear hK1
      change wpAnyH _ _ _ _ _ _ _ (Act.put _ (some 5) _) _
      simp only [Act.put, s0, s1, s2]
      generalize V3.alloc (.map #[] 0) = V4 at *
      generalize V3.heap.size = gb at *
      refine wpAnyH_ready (rs := [5]) (by kernel_rfl) (by simp) (AllReadyH.cons rfl (fun K1 hK1 => ?_) AllReadyH.nil)
      go_simp
      refine (HI.out V4 (KS.out _ (below_next D2.out LW4.out))).mono ?_
      rintro r V5 ⟨rfl, be⟩
      have TT5 := hide (TT4.out.next be)
      have CC5 := hide (CC4.out.next be)
      have MB5 := hide (own_block MB4.out (be.block _ MB4.out.lt))
      have MU5 := hide (own_block MU4.out (be.block _ MU4.out.lt))
      have LW5 := hide (below_next LW4.out be)
      clear be
      refine hK1.out _ _ LW5.out (fun hH => ?_)
      clear hK1
      refine wpAnyH_ready (rs := [7]) (by kernel_rfl) (by simp) (AllReadyH.cons rfl (fun K1 hK1 => ?_) AllReadyH.nil)
      obtain ⟨V6, hrun, om, gr⟩ := MP1.out V5 gb MB5.out
      have fr := Frt.of_grown (S := fun g => g = gb) gr (by intro g e; cases e; rfl)
      have TT6 := hide (TT5.out.map17 MB5.out GB.out N_gb_gm.out fr)
      have CC6 := hide (CC5.out.map17 MB5.out GB.out N_gb_bm.out N_gb_bc.out fr)
      have MB6 := hide om
      have MU6 := hide (own_block MU5.out (fr.block _ MU5.out.lt (Ne.symm N_gb_gu.out)))
      have LW6 : Hid (Below W2.heap.size W2 V6) := ⟨fr.os.trans LW5.out.os, fr.tape.trans LW5.out.tape, fr.output.trans LW5.out.output, Nat.le_trans LW5.out.size fr.size, fun q hq => (fr.block q (Nat.lt_of_lt_of_le hq LW5.out.size) (by intro e; have := GB2.out; omega)).trans (LW5.out.block q hq)⟩
      refine step_skip14 (by rfl) (ex_ins _ _ _ _ (by rfl) _ _ _ (by rfl) (by rfl) (by rfl) hrun) ?_
      refine hK1.out _ _ LW6.out (fun hH => ?_)
      clear hK1 hrun om gr fr
      change wpAnyH _ _ _ _ _ _ _ (Act.put _ none _) _
      simp only [Act.put]
      refine wt (i := 8) (v := (.map (some gb))) rfl (yl_move (by rfl) _ (by rfl) _ (by rfl)) hH ?_
      change wpAnyH _ _ _ _ _ _ _ (Act.put _ (some 10) _) _
      simp only [Act.put, s0, s1, s2]
      refine wt (i := 10) (v := (.agg (chA gt gc gb gu))) rfl (yl_build (by rfl) _ (by rfl) #[(0, .pointer (some ⟨gt, 0, none⟩)), (1, .pointer (some ⟨gc, 0, none⟩)), (2, .map (some gb)), (3, .map (some gu))] _ (by simp only [List.map_toArray, List.map_cons, List.map_nil]; rfl) (bld_ch gt gc gb gu)) hH ?_
      change wpAnyH _ _ _ _ _ _ _ (Act.put _ (some 12) _) _
      simp only [Act.put, s0, s1, s2]
      have FIN := hide (ch_new TT6.out CC6.out MB6.out MU6.out GB.out GU.out ⟨(Ne.symm N_bm_gm.out), (Ne.symm N_bc_gm.out), (Ne.symm N_gb_gm.out), N_gm_gu.out⟩ ⟨N_gb_bm.out, N_gb_bc.out, N_gb_gu.out⟩ ⟨(Ne.symm N_bm_gu.out), (Ne.symm N_bc_gu.out)⟩)
      refine wpAnyH_ready (rs := [11]) (by kernel_rfl) (by simp) (AllReadyH.cons rfl (fun K1 hK1 => ?_) AllReadyH.nil)
      refine step_run14 (by rfl) (ex_box14 _ (by rfl) (chA gt gc gb gu) (by rfl)) ?_
      refine hK1.out _ _ (below_next LW6.out ((Below.refl V6.heap.size V6).alloc (Nat.le_refl _) _)) (fun hH => ?_)
      clear hK1
      change wpAnyH _ _ _ _ _ _ _ (Act.put _ (some 13) _) _
      simp only [Act.put, s0, s1, s2]
      refine wt (i := 12) (v := (.pointer (some ⟨V6.heap.size, 0, none⟩))) rfl (.inl ⟨by rfl, fun W _ => by go_simp⟩) hH ?_
      change wpAnyH _ _ _ _ _ _ _ (Act.put _ (some 0) _) _
      simp only [Act.put, s0, s1, s2]
      refine wpAnyH_done (by kernel_rfl) ?_ _
      go_wp2
      go_ret
      exact ⟨_, _, _, _, _, _, _, _, _, rfl, FIN.out⟩
     ·go_simp
      refine (HI.out V3 (KS.out _ (below_next D2.out LW3.out))).mono ?_
      rintro r V4 ⟨rfl, be⟩
      have TT4 := hide (TT3.out.next be)
      have CC4 := hide (CC3.out.next be)
      have MU4 := hide (own_block MU3.out (be.block _ MU3.out.lt))
      have LW4 := hide (below_next LW3.out be)
      clear be
      refine hK1.out _ _ LW4.out (fun hH => ?_)
      clear hK1
      refine wpAnyH_ready (rs := [2]) (by kernel_rfl) (by simp) (AllReadyH.cons rfl (fun K1 hK1 => ?_) AllReadyH.nil)
      have be := (Below.refl V4.heap.size V4).alloc (Nat.le_refl _) (.map #[] 0)
      have TT5 := hide (TT4.out.next be)
      have CC5 := hide (CC4.out.next be)
      have MU5 := hide (own_block MU4.out (be.block _ MU4.out.lt))
      have MB5 := hide (World.ownsMap_made (H := Unit) V4 Tryz.prog 46 boR)
      have LW5 := hide (below_next LW4.out be)
      have GB : Hid (w.heap.size ≤ V4.heap.size) := (below_next D2.out LW4.out).size
      have GB2 : Hid (W2.heap.size ≤ V4.heap.size) := LW4.out.size
      have N_gb_gm := hide (ne17 TT4.out.map.lt (Nat.le_refl _))
      have N_gb_bm := hide (ne17 CC4.out.mp.lt (Nat.le_refl _))
      have N_gb_bc := hide (ne17 CC4.out.ct.lt (Nat.le_refl _))
      have N_gb_gu := hide (ne17 MU4.out.lt (Nat.le_refl _))
      clear be
      refine step_run14 (by rfl) (ex_mk17 (by rfl) (mk1.out V4)) ?_
      refine hK1.out _ _ LW5.out (fun hH => ?_)
      clear hK1
      change wpAnyH _ _ _ _ _ _ _ (Act.put _ (some 5) _) _
      simp only [Act.put, s0, s1, s2]
      generalize V4.alloc (.map #[] 0) = V5 at *
      generalize V4.heap.size = gb at *
      refine wpAnyH_ready (rs := [7]) (by kernel_rfl) (by simp) (AllReadyH.cons rfl (fun K1 hK1 => ?_) AllReadyH.nil)
      obtain ⟨V6, hrun, om, gr⟩ := MP1.out V5 gb MB5.out
      have fr := Frt.of_grown (S := fun g => g = gb) gr (by intro g e; cases e; rfl)
      have TT6 := hide (TT5.out.map17 MB5.out GB.out N_gb_gm.out fr)
      have CC6 := hide (CC5.out.map17 MB5.out GB.out N_gb_bm.out N_gb_bc.out fr)
      have MB6 := hide om
      have MU6 := hide (own_block MU5.out (fr.block _ MU5.out.lt (Ne.symm N_gb_gu.out)))
      have LW6 : Hid (Below W2.heap.size W2 V6) := ⟨fr.os.trans LW5.out.os, fr.tape.trans LW5.out.tape, fr.output.trans LW5.out.output, Nat.le_trans LW5.out.size fr.size, fun q hq => (fr.block q (Nat.lt_of_lt_of_le hq LW5.out.size) (by intro e; have := GB2.out; omega)).trans (LW5.out.block q hq)⟩
      refine step_skip14 (by rfl) (ex_ins _ _ _ _ (by rfl) _ _ _ (by rfl) (by rfl) (by rfl) hrun) ?_
      refine hK1.out _ _ LW6.out (fun hH => ?_)
      clear hK1 hrun om gr fr
      change wpAnyH _ _ _ _ _ _ _ (Act.put _ none _) _
      simp only [Act.put]
      refine wt (i := 8) (v := (.map (some gb))) rfl (yl_move (by rfl) _ (by rfl) _ (by rfl)) hH ?_
      change wpAnyH _ _ _ _ _ _ _ (Act.put _ (some 10) _) _
      simp only [Act.put, s0, s1, s2]
      refine wt (i := 10) (v := (.agg (chA gt gc gb gu))) rfl (yl_build (by rfl) _ (by rfl) #[(0, .pointer (some ⟨gt, 0, none⟩)), (1, .pointer (some ⟨gc, 0, none⟩)), (2, .map (some gb)), (3, .map (some gu))] _ (by simp only [List.map_toArray, List.map_cons, List.map_nil]; rfl) (bld_ch gt gc gb gu)) hH ?_
      change wpAnyH _ _ _ _ _ _ _ (Act.put _ (some 12) _) _
      simp only [Act.put, s0, s1, s2]
      have FIN := hide (ch_new TT6.out CC6.out MB6.out MU6.out GB.out GU.out ⟨(Ne.symm N_bm_gm.out), (Ne.symm N_bc_gm.out), (Ne.symm N_gb_gm.out), N_gm_gu.out⟩ ⟨N_gb_bm.out, N_gb_bc.out, N_gb_gu.out⟩ ⟨(Ne.symm N_bm_gu.out), (Ne.symm N_bc_gu.out)⟩)
      refine wpAnyH_ready (rs := [11]) (by kernel_rfl) (by simp) (AllReadyH.cons rfl (fun K1 hK1 => ?_) AllReadyH.nil)
      refine step_run14 (by rfl) (ex_box14 _ (by rfl) (chA gt gc gb gu) (by rfl)) ?_
      refine hK1.out _ _ (below_next LW6.out ((Below.refl V6.heap.size V6).alloc (Nat.le_refl _) _)) (fun hH => ?_)
      clear hK1
      change wpAnyH _ _ _ _ _ _ _ (Act.put _ (some 13) _) _
      simp only [Act.put, s0, s1, s2]
      refine wt (i := 12) (v := (.pointer (some ⟨V6.heap.size, 0, none⟩))) rfl (.inl ⟨by rfl, fun W _ => by go_simp⟩) hH ?_
      change wpAnyH _ _ _ _ _ _ _ (Act.put _ (some 0) _) _
      simp only [Act.put, s0, s1, s2]
      refine wpAnyH_done (by kernel_rfl) ?_ _
      go_wp2
      go_ret
      exact ⟨_, _, _, _, _, _, _, _, _, rfl, FIN.out⟩
    ·have be := (Below.refl V2.heap.size V2).alloc (Nat.le_refl _) (.map #[] 0)
     have TT3 := hide (TT2.out.next be)
     have MU3 := hide (own_block MU2.out (be.block _ MU2.out.lt))
     have MB3 := hide (World.ownsMap_made (H := Unit) V2 Tryz.prog 46 boR)
     have LW3 := hide (below_next LW2.out be)
     have GB : Hid (w.heap.size ≤ V2.heap.size) := (below_next D2.out LW2.out).size
     have GB2 : Hid (W2.heap.size ≤ V2.heap.size) := LW2.out.size
     have N_gb_gm := hide (ne17 TT2.out.map.lt (Nat.le_refl _))
     have N_gb_gu := hide (ne17 MU2.out.lt (Nat.le_refl _))
     clear be
     refine step_run14 (by rfl) (ex_mk17 (by rfl) (mk1.out V2)) ?_
     refine hK1.out _ _ LW3.out (fun hH => ?_)
     clear hK1
     change wpAnyH _ _ _ _ _ _ _ (Act.put _ (some 5) _) _
     simp only [Act.put, s0, s1, s2]
     generalize V2.alloc (.map #[] 0) = V3 at *
     generalize V2.heap.size = gb at *
     refine wpAnyH_ready (rs := [1]) (by kernel_rfl) (by simp) (AllReadyH.cons rfl (fun K1 hK1 => ?_) AllReadyH.nil)
     go_simp
     refine (HC.out V3 (KS.out _ (below_next D2.out LW3.out))).mono ?_
     rintro r V4 ⟨gc, bm, bc, rfl, c0⟩
     have be := c0.bel
     have CC4 := hide (c0.base (below_next D2.out LW3.out))
     have TT4 := hide (TT3.out.next be)
     have MB4 := hide (own_block MB3.out (be.block _ MB3.out.lt))
     have MU4 := hide (own_block MU3.out (be.block _ MU3.out.lt))
     have N_bm_gm := hide (ne17 TT3.out.map.lt c0.b1)
     have N_bm_gb := hide (ne17 MB3.out.lt c0.b1)
     have N_bm_gu := hide (ne17 MU3.out.lt c0.b1)
     have N_bc_gm := hide (ne17 TT3.out.map.lt c0.b2)
     have N_bc_gb := hide (ne17 MB3.out.lt c0.b2)
     have N_bc_gu := hide (ne17 MU3.out.lt c0.b2)
     have LW4 := hide (below_next LW3.out be)
     clear c0 be
     refine hK1.out _ _ LW4.out (fun hH => ?_)
     clear hK1
     refine wpAnyH_ready (rs := [5]) (by kernel_rfl) (by simp) (AllReadyH.cons rfl (fun K1 hK1 => ?_) AllReadyH.nil)
     go_simp
     refine (HI.out V4 (KS.out _ (below_next D2.out LW4.out))).mono ?_
     rintro r V5 ⟨rfl, be⟩
     have TT5 := hide (TT4.out.next be)
     have CC5 := hide (CC4.out.next be)
     have MB5 := hide (own_block MB4.out (be.block _ MB4.out.lt))
     have MU5 := hide (own_block MU4.out (be.block _ MU4.out.lt))
     have LW5 := hide (below_next LW4.out be)
     clear be
     refine hK1.out _ _ LW5.out (fun hH => ?_)
     clear hK1
     refine wpAnyH_ready (rs := [7]) (by kernel_rfl) (by simp) (AllReadyH.cons rfl (fun K1 hK1 => ?_) AllReadyH.nil)
     obtain ⟨V6, hrun, om, gr⟩ := MP1.out V5 gb MB5.out
     have fr := Frt.of_grown (S := fun g => g = gb) gr (by intro g e; cases e; rfl)
     have TT6 := hide (TT5.out.map17 MB5.out GB.out N_gb_gm.out fr)
     have CC6 := hide (CC5.out.map17 MB5.out GB.out (Ne.symm N_bm_gb.out) (Ne.symm N_bc_gb.out) fr)
     have MB6 := hide om
     have MU6 := hide (own_block MU5.out (fr.block _ MU5.out.lt (Ne.symm N_gb_gu.out)))
     have LW6 : Hid (Below W2.heap.size W2 V6) := ⟨fr.os.trans LW5.out.os, fr.tape.trans LW5.out.tape, fr.output.trans LW5.out.output, Nat.le_trans LW5.out.size fr.size, fun q hq => (fr.block q (Nat.lt_of_lt_of_le hq LW5.out.size) (by intro e; have := GB2.out; omega)).trans (LW5.out.block q hq)⟩
     refine step_skip14 (by rfl) (ex_ins _ _ _ _ (by rfl) _ _ _ (by rfl) (by rfl) (by rfl) hrun) ?_
     refine hK1.out _ _ LW6.out (fun hH => ?_)
     clear hK1 hrun om gr fr
     change wpAnyH _ _ _ _ _ _ _ (Act.put _ none _) _
     simp only [Act.put]
     refine wt (i := 8) (v := (.map (some gb))) rfl (yl_move (by rfl) _ (by rfl) _ (by rfl)) hH ?_
     change wpAnyH _ _ _ _ _ _ _ (Act.put _ (some 10) _) _
     simp only [Act.put, s0, s1, s2]
     refine wt (i := 10) (v := (.agg (chA gt gc gb gu))) rfl (yl_build (by rfl) _ (by rfl) #[(0, .pointer (some ⟨gt, 0, none⟩)), (1, .pointer (some ⟨gc, 0, none⟩)), (2, .map (some gb)), (3, .map (some gu))] _ (by simp only [List.map_toArray, List.map_cons, List.map_nil]; rfl) (bld_ch gt gc gb gu)) hH ?_
     change wpAnyH _ _ _ _ _ _ _ (Act.put _ (some 12) _) _
     simp only [Act.put, s0, s1, s2]
     have FIN := hide (ch_new TT6.out CC6.out MB6.out MU6.out GB.out GU.out ⟨(Ne.symm N_bm_gm.out), (Ne.symm N_bc_gm.out), (Ne.symm N_gb_gm.out), N_gm_gu.out⟩ ⟨(Ne.symm N_bm_gb.out), (Ne.symm N_bc_gb.out), N_gb_gu.out⟩ ⟨(Ne.symm N_bm_gu.out), (Ne.symm N_bc_gu.out)⟩)
     refine wpAnyH_ready (rs := [11]) (by kernel_rfl) (by simp) (AllReadyH.cons rfl (fun K1 hK1 => ?_) AllReadyH.nil)
     refine step_run14 (by rfl) (ex_box14 _ (by rfl) (chA gt gc gb gu) (by rfl)) ?_
     refine hK1.out _ _ (below_next LW6.out ((Below.refl V6.heap.size V6).alloc (Nat.le_refl _) _)) (fun hH => ?_)
     clear hK1
     change wpAnyH _ _ _ _ _ _ _ (Act.put _ (some 13) _) _
     simp only [Act.put, s0, s1, s2]
     refine wt (i := 12) (v := (.pointer (some ⟨V6.heap.size, 0, none⟩))) rfl (.inl ⟨by rfl, fun W _ => by go_simp⟩) hH ?_
     change wpAnyH _ _ _ _ _ _ _ (Act.put _ (some 0) _) _
     simp only [Act.put, s0, s1, s2]
     refine wpAnyH_done (by kernel_rfl) ?_ _
     go_wp2
     go_ret
     exact ⟨_, _, _, _, _, _, _, _, _, rfl, FIN.out⟩
   ·have be := (Below.refl V1.heap.size V1).alloc (Nat.le_refl _) (.map #[] 0)
    have MU2 := hide (own_block MU1.out (be.block _ MU1.out.lt))
    have MB2 := hide (World.ownsMap_made (H := Unit) V1 Tryz.prog 46 boR)
    have LW2 := hide (below_next LW1.out be)
    have GB : Hid (w.heap.size ≤ V1.heap.size) := (below_next D2.out LW1.out).size
    have GB2 : Hid (W2.heap.size ≤ V1.heap.size) := LW1.out.size
    have N_gb_gu := hide (ne17 MU1.out.lt (Nat.le_refl _))
    clear be
    refine step_run14 (by rfl) (ex_mk17 (by rfl) (mk1.out V1)) ?_
    refine hK1.out _ _ LW2.out (fun hH => ?_)
    clear hK1
    change wpAnyH _ _ _ _ _ _ _ (Act.put _ (some 5) _) _
    simp only [Act.put, s0, s1, s2]
    generalize V1.alloc (.map #[] 0) = V2 at *
    generalize V1.heap.size = gb at *
    refine wpAnyH_ready (rs := [0]) (by kernel_rfl) (by simp) (AllReadyH.cons rfl (fun K1 hK1 => ?_) AllReadyH.nil)
    go_simp
    refine (HT.out V2 (KS.out _ (below_next D2.out LW2.out))).mono ?_
    rintro r V3 ⟨gt, gm, ve, rfl, t0⟩
    have be := t0.bel
    have TT3 := hide (t0.base (below_next D2.out LW2.out))
    have MB3 := hide (own_block MB2.out (be.block _ MB2.out.lt))
    have MU3 := hide (own_block MU2.out (be.block _ MU2.out.lt))
    have N_gm_gb := hide (ne17 MB2.out.lt t0.bm)
    have N_gm_gu := hide (ne17 MU2.out.lt t0.bm)
    have LW3 := hide (below_next LW2.out be)
    clear t0 be
    refine hK1.out _ _ LW3.out (fun hH => ?_)
    clear hK1
    refine wpAnyH_ready (rs := [1]) (by kernel_rfl) (by simp) (AllReadyH.cons rfl (fun K1 hK1 => ?_) AllReadyH.nil)
    go_simp
    refine (HC.out V3 (KS.out _ (below_next D2.out LW3.out))).mono ?_
    rintro r V4 ⟨gc, bm, bc, rfl, c0⟩
    have be := c0.bel
    have CC4 := hide (c0.base (below_next D2.out LW3.out))
    have TT4 := hide (TT3.out.next be)
    have MB4 := hide (own_block MB3.out (be.block _ MB3.out.lt))
    have MU4 := hide (own_block MU3.out (be.block _ MU3.out.lt))
    have N_bm_gm := hide (ne17 TT3.out.map.lt c0.b1)
    have N_bm_gb := hide (ne17 MB3.out.lt c0.b1)
    have N_bm_gu := hide (ne17 MU3.out.lt c0.b1)
    have N_bc_gm := hide (ne17 TT3.out.map.lt c0.b2)
    have N_bc_gb := hide (ne17 MB3.out.lt c0.b2)
    have N_bc_gu := hide (ne17 MU3.out.lt c0.b2)
    have LW4 := hide (below_next LW3.out be)
    clear c0 be
    refine hK1.out _ _ LW4.out (fun hH => ?_)
    clear hK1
    refine wpAnyH_ready (rs := [5]) (by kernel_rfl) (by simp) (AllReadyH.cons rfl (fun K1 hK1 => ?_) AllReadyH.nil)
    go_simp
    refine (HI.out V4 (KS.out _ (below_next D2.out LW4.out))).mono ?_
    rintro r V5 ⟨rfl, be⟩
    have TT5 := hide (TT4.out.next be)
    have CC5 := hide (CC4.out.next be)
    have MB5 := hide (own_block MB4.out (be.block _ MB4.out.lt))
    have MU5 := hide (own_block MU4.out (be.block _ MU4.out.lt))
    have LW5 := hide (below_next LW4.out be)
    clear be
    refine hK1.out _ _ LW5.out (fun hH => ?_)
    clear hK1
    refine wpAnyH_ready (rs := [7]) (by kernel_rfl) (by simp) (AllReadyH.cons rfl (fun K1 hK1 => ?_) AllReadyH.nil)
    obtain ⟨V6, hrun, om, gr⟩ := MP1.out V5 gb MB5.out
    have fr := Frt.of_grown (S := fun g => g = gb) gr (by intro g e; cases e; rfl)
    have TT6 := hide (TT5.out.map17 MB5.out GB.out (Ne.symm N_gm_gb.out) fr)
    have CC6 := hide (CC5.out.map17 MB5.out GB.out (Ne.symm N_bm_gb.out) (Ne.symm N_bc_gb.out) fr)
    have MB6 := hide om
    have MU6 := hide (own_block MU5.out (fr.block _ MU5.out.lt (Ne.symm N_gb_gu.out)))
    have LW6 : Hid (Below W2.heap.size W2 V6) := ⟨fr.os.trans LW5.out.os, fr.tape.trans LW5.out.tape, fr.output.trans LW5.out.output, Nat.le_trans LW5.out.size fr.size, fun q hq => (fr.block q (Nat.lt_of_lt_of_le hq LW5.out.size) (by intro e; have := GB2.out; omega)).trans (LW5.out.block q hq)⟩
    refine step_skip14 (by rfl) (ex_ins _ _ _ _ (by rfl) _ _ _ (by rfl) (by rfl) (by rfl) hrun) ?_
    refine hK1.out _ _ LW6.out (fun hH => ?_)
    clear hK1 hrun om gr fr
    change wpAnyH _ _ _ _ _ _ _ (Act.put _ none _) _
    simp only [Act.put]
    refine wt (i := 8) (v := (.map (some gb))) rfl (yl_move (by rfl) _ (by rfl) _ (by rfl)) hH ?_
    change wpAnyH _ _ _ _ _ _ _ (Act.put _ (some 10) _) _
    simp only [Act.put, s0, s1, s2]
    refine wt (i := 10) (v := (.agg (chA gt gc gb gu))) rfl (yl_build (by rfl) _ (by rfl) #[(0, .pointer (some ⟨gt, 0, none⟩)), (1, .pointer (some ⟨gc, 0, none⟩)), (2, .map (some gb)), (3, .map (some gu))] _ (by simp only [List.map_toArray, List.map_cons, List.map_nil]; rfl) (bld_ch gt gc gb gu)) hH ?_
    change wpAnyH _ _ _ _ _ _ _ (Act.put _ (some 12) _) _
    simp only [Act.put, s0, s1, s2]
    have FIN := hide (ch_new TT6.out CC6.out MB6.out MU6.out GB.out GU.out ⟨(Ne.symm N_bm_gm.out), (Ne.symm N_bc_gm.out), N_gm_gb.out, N_gm_gu.out⟩ ⟨(Ne.symm N_bm_gb.out), (Ne.symm N_bc_gb.out), N_gb_gu.out⟩ ⟨(Ne.symm N_bm_gu.out), (Ne.symm N_bc_gu.out)⟩)
    refine wpAnyH_ready (rs := [11]) (by kernel_rfl) (by simp) (AllReadyH.cons rfl (fun K1 hK1 => ?_) AllReadyH.nil)
    refine step_run14 (by rfl) (ex_box14 _ (by rfl) (chA gt gc gb gu) (by rfl)) ?_
    refine hK1.out _ _ (below_next LW6.out ((Below.refl V6.heap.size V6).alloc (Nat.le_refl _) _)) (fun hH => ?_)
    clear hK1
    change wpAnyH _ _ _ _ _ _ _ (Act.put _ (some 13) _) _
    simp only [Act.put, s0, s1, s2]
    refine wt (i := 12) (v := (.pointer (some ⟨V6.heap.size, 0, none⟩))) rfl (.inl ⟨by rfl, fun W _ => by go_simp⟩) hH ?_
    change wpAnyH _ _ _ _ _ _ _ (Act.put _ (some 0) _) _
    simp only [Act.put, s0, s1, s2]
    refine wpAnyH_done (by kernel_rfl) ?_ _
    go_wp2
    go_ret
    exact ⟨_, _, _, _, _, _, _, _, _, rfl, FIN.out⟩
end
end Go.Proofs.YtcoojkpimbddlaaGreatDoor
