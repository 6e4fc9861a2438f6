/- The contract of the document's read: a position of which its id is told. -/
import Derived.Test.YthlaibkdcebekaaDoorNza
namespace Go.Proofs.YthlaibkdcebekaaDoor
open Go.RowKit
open Go.Deep
section
set_option linter.unusedSimpArgs false
set_option maxRecDepth 10000
set_option maxHeartbeats 4000000
theorem dread_leaf {B W : World} {n k p b i : Nat} {vb vi vp vm : Value} {bs : List Bool} {is : List (List UInt8)} {ps : List Nat} {ms : List (List UInt8)} (hB : LB B vb bs) (hI : LH B vi is) (hbs : bs.length < 4611686018427387904) (his : is.length < 4611686018427387904) (e : Es B W vp vm ps ms) (hb : b < bs.length) (hi : i ≤ is.length) (hl : bs.getD b false = false ∨ k = 0) (hb1 : ps.length ≤ 1000000) (hb2 : ms.length ≤ 1000000) :
    Calls Tryd.prog 25 #[.agg (r8 n vb vi b i vp vm false), .int .i64 (k : Int), .int .i64 (p : Int)] W fun e w' => DA B W n vb vi bs is k p false b i vp vm ps ms e w' := by
  obtain ⟨ab, cb, rfl, _⟩ := hB.form
  obtain ⟨gb, ob, rfl⟩ := hB.base (by omega)
  obtain ⟨ai, ci, rfl⟩ := hI.form
  obtain ⟨ap, cp, rfl⟩ := e.pl.form
  obtain ⟨am, cm, rfl⟩ := e.mt.form
  have D1 := hide (Dm.start e n (.slice (some ⟨gb, ob, none⟩) bs.length cb) (.slice ai is.length ci) b i false)
  have HB := hide (And.intro hb1 hb2)
  have CB := hide fun X (hX : Below B.heap.size B X) => (hB.below hX).cell b hb
  have HI := hide hI
  have h5 : ¬ (bs.length : Int) ≤ (b : Int) := by omega
  have i1 : (b : Int) < (bs.length : Int) := by omega
  have i2 : (0 : Int) ≤ (b : Int) := by omega
  have w1 : IntKind.i64.wrap ((b : Int) + 1) = ((b + 1 : Nat) : Int) := by rw [wrapI _ (by omega) (by omega)]; omega
  have HBI := hide (And.intro hb (And.intro hi (And.intro hl his)))
  have hcs : bs.getD b false = false ∨ (bs.getD b false = true ∧ ((k : Int) == 0) = true) := by
    by_cases hq : bs.getD b false = false
    · exact .inl hq
    · refine .inr ⟨by simpa using hq, ?_⟩
      rcases hl with h | h
      · exact absurd h hq
      · rw [h]
        rfl
  have hpw : Hid (0 < 2 ^ k) := Nat.pos_of_ne_zero (by simp)
  generalize hgg : DA B W n (.slice (some ⟨gb, ob, none⟩) bs.length cb) (.slice ai is.length ci) bs is k p false b i (.slice ap ps.length cp) (.slice am ms.length cm) ps ms = GG
  have HG := hide hgg
  clear hgg hB hI hbs his e hb hi hl hb1 hb2
  generalize hbit : bs.getD b false = bit at *
  have HBT := hide hbit
  clear hbit
  generalize hb1 : b + 1 = b1 at *
  have HB1 := hide hb1
  clear hb1
  go_enter Tryd.func25, Tryd.ntmps25
  go_upto_region 1 with (first | refine wpList_boxA rfl _ rfl (r8 n (.slice (some ⟨gb, ob, none⟩) bs.length cb) (.slice ai is.length ci) b i (.slice ap ps.length cp) (.slice am ms.length cm) false) rfl ?_ | refine wpList_allocA A8 rfl rfl ?_ | refine wpList_allocA A24 rfl rfl ?_)
  generalize W.alloc (.cells (r8 n (.slice (some ⟨gb, ob, none⟩) bs.length cb) (.slice ai is.length ci) b i (.slice ap ps.length cp) (.slice am ms.length cm) false) 68) = Wa at *
  generalize Wa.alloc (.cells z8 68) = Wb at *
  generalize Wb.alloc (.cells (hc zeros) 38) = W1 at *
  generalize W.heap.size = g3 at *
  generalize Wa.heap.size = g6 at *
  generalize Wb.heap.size = g7 at *
  have x1 : W1.cell? ⟨g3, 1, none⟩ = some (.slice (some ⟨gb, ob, none⟩) bs.length cb) := D1.out.c 1 (by decide)
  have x3 : W1.cell? ⟨g3, 3, none⟩ = some (.int .i64 (b : Int)) := D1.out.c 3 (by decide)
  have x7 : W1.cell? ⟨g3, 7, none⟩ = some (.bool false) := D1.out.c 7 (by decide)
  have f3 := D1.out.f 3
  have cb1 := CB.out W1 D1.out.bel
  have D2 := hide (D1.out.setB b1)
  go_upto_region 6 with fail
  clear x1 x3 x7 f3 D1 cb1 h5 i1 i2 w1 CB
  generalize W1.setCell ⟨g3, 3, none⟩ (.int .i64 (b1 : Int)) = W2 at *
  have x2 : W2.cell? ⟨g3, 2, none⟩ = some (.slice ai is.length ci) := D2.out.c 2 (by decide)
  have x4 : W2.cell? ⟨g3, 4, none⟩ = some (.int .i64 (i : Int)) := D2.out.c 4 (by decide)
  by_cases hid : i < is.length
  · obtain ⟨gi, oi, rfl⟩ := HI.out.base (by omega)
    have i3 : (i : Int) < (is.length : Int) := by omega
    have i4 : (0 : Int) ≤ (i : Int) := by omega
    have h6 : ¬ (is.length : Int) ≤ (i : Int) := by omega
    have w2 : IntKind.i64.wrap ((i : Int) + 1) = ((i + 1 : Nat) : Int) := by have := HBI.out.2.2.2; rw [wrapI _ (by omega) (by omega)]; omega
    have LX := hide (HI.out.1.at i hid)
    have RX := hide ((HI.out.below D2.out.bel).range i hid)
    have HD := hide (DO.leaf (bs := bs) (is := is) (n := n) (k := k) (p := p) (ps := ps) (ms := ms) HBI.out.1 hid (by rw [HBT.out]; exact HBI.out.2.2.1))
    rw [HBT.out, HB1.out] at HD
    have HI1 : Hid (i + 1 ≤ is.length) := hid
    generalize ia is i = A at *
    generalize i + 1 = i1 at *
    have b3 : Below W2.heap.size W2 (W2.alloc (.cells (hc A) 38)) := (Below.refl _ _).alloc (Nat.le_refl _) _
    have D3 := hide (D2.out.next b3)
    have R3 := hide (heap_alloc_last W2 (.cells (hc A) 38))
    have NE : Hid (W2.heap.size ≠ g3 ∧ W2.heap.size ≠ g6 ∧ W2.heap.size ≠ g7 ∧ (Value.slice ap ps.length cp).ownBlock ≠ some W2.heap.size ∧ (Value.slice am ms.length cm).ownBlock ≠ some W2.heap.size) :=
      ⟨fun e => by have := lt_heap D2.out.r3; omega, fun e => by have := lt_heap D2.out.r6; omega, fun e => by have := lt_heap D2.out.r7; omega, fun e => by have := D2.out.pl.lt _ e; omega, fun e => by have := D2.out.mt.lt _ e; omega⟩
    clear b3 hid
    rcases hcs with rfl | ⟨rfl, hk0⟩
    · go_upto_region 11 with (first | refine ET.wpLoad ER rfl _ rfl gi (oi + i * 32) rfl A LX.out RX.out ?_ | refine wpList_allocA A24 rfl rfl ?_ | refine wpList_store_newA A24 rfl _ _ rfl _ rfl (hc A) (by rw [hc_size, LX.out]) (hc_one _) rfl rfl ?_)
      generalize W2.alloc (.cells (hc A) 38) = W3 at *
      generalize W2.heap.size = g9 at *
      clear x2 x4 D2 RX
      have x4 : W3.cell? ⟨g3, 4, none⟩ = some (.int .i64 (i : Int)) := D3.out.c 4 (by decide)
      have f4 := D3.out.f 4
      have D4 := hide (D3.out.setI i1)
      have R4 := hide ((Below.heap_setCell W3 ⟨g3, 4, none⟩ (.int .i64 (i1 : Int)) g9 NE.out.1).trans R3.out)
      go_upto_region 15 with fail
      clear x4 f4 D3 R3
      generalize W3.setCell ⟨g3, 4, none⟩ (.int .i64 (i1 : Int)) = WZ at *
      have DZ := D4
      have RZ := R4
      clear D4 R4
      have E5 := hide ((DZ.out.next (Below.refl _ _).drew).fin A)
      have s1 := hide ((setRow_other WZ.drew g6 g3 (r8 n (.slice (some ⟨gb, ob, none⟩) bs.length cb) (.slice (some ⟨gi, oi, none⟩) is.length ci) b1 i1 (.slice ap ps.length cp) (.slice am ms.length cm) false) DZ.out.n36).trans DZ.out.r3)
      have s2 := hide ((setRow_other WZ.drew g6 g9 (r8 n (.slice (some ⟨gb, ob, none⟩) bs.length cb) (.slice (some ⟨gi, oi, none⟩) is.length ci) b1 i1 (.slice ap ps.length cp) (.slice am ms.length cm) false) NE.out.2.1).trans RZ.out)
      have s3 := hide ((setRow_other (WZ.drew.setRow g6 (r8 n (.slice (some ⟨gb, ob, none⟩) bs.length cb) (.slice (some ⟨gi, oi, none⟩) is.length ci) b1 i1 (.slice ap ps.length cp) (.slice am ms.length cm) false)) g7 g3 (hc A) DZ.out.n37).trans s1.out)
      have s4 := hide ((setRow_other (WZ.drew.setRow g6 (r8 n (.slice (some ⟨gb, ob, none⟩) bs.length cb) (.slice (some ⟨gi, oi, none⟩) is.length ci) b1 i1 (.slice ap ps.length cp) (.slice am ms.length cm) false)) g7 g9 (hc A) NE.out.2.2.1).trans s2.out)
      have k7 := hide ((setRow_other WZ.drew g6 g7 (r8 n (.slice (some ⟨gb, ob, none⟩) bs.length cb) (.slice (some ⟨gi, oi, none⟩) is.length ci) b1 i1 (.slice ap ps.length cp) (.slice am ms.length cm) false) (Ne.symm DZ.out.n67)).trans DZ.out.r7)
      refine wp_region_held_drew (S := fun W => W.heap[g3]? = some (.cells (r8 n (.slice (some ⟨gb, ob, none⟩) bs.length cb) (.slice (some ⟨gi, oi, none⟩) is.length ci) b1 i1 (.slice ap ps.length cp) (.slice am ms.length cm) false) 68 (0, 0)) ∧ W.heap[g9]? = some (.cells (hc A) 38 (0, 0))) (by kernel_rfl) ⟨DZ.out.r3, RZ.out⟩ (fun hH => ?_)
      refine wpAnyH_take (i := 0) (v := .agg (r8 n (.slice (some ⟨gb, ob, none⟩) bs.length cb) (.slice (some ⟨gi, oi, none⟩) is.length ci) b1 i1 (.slice ap ps.length cp) (.slice am ms.length cm) false)) rfl (by kernel_rfl) (by kernel_rfl) (by kernel_rfl) (fun _ _ _ h => h) (yl_load (by rfl) _ (by rfl) _ (r8 n (.slice (some ⟨gb, ob, none⟩) bs.length cb) (.slice (some ⟨gi, oi, none⟩) is.length ci) b1 i1 (.slice ap ps.length cp) (.slice am ms.length cm) false) (by rfl) (fun W hS => ld_row A8 rfl hS.1)) hH ?_
      change wpAnyH _ _ _ _ _ _ _ (Act.put _ (some 77) _) _
      simp only [Act.put, List.setIfInBounds_toArray, List.set_cons_zero, List.set_cons_succ]
      refine wpAnyH_take (i := 1) (v := .agg (hc A)) rfl (by kernel_rfl) (by kernel_rfl) (by kernel_rfl) (fun _ _ _ h => h) (yl_load (by rfl) _ (by rfl) _ (hc A) (by rfl) (fun W hS => ld_row A24 (by rw [hc_size, LX.out]) hS.2)) hH ?_
      change wpAnyH _ _ _ _ _ _ _ (Act.put _ (some 78) _) _
      simp only [Act.put, List.setIfInBounds_toArray, List.set_cons_zero, List.set_cons_succ]
      refine wpAnyH_ready (rs := [2]) (by kernel_rfl) (by simp) (AllReadyH.cons rfl (fun K1 hK1 => ?_) AllReadyH.nil)
      refine stepStoreA A8 (by rfl) _ _ (by rfl) g6 (r8 n (.slice (some ⟨gb, ob, none⟩) bs.length cb) (.slice (some ⟨gi, oi, none⟩) is.length ci) b1 i1 (.slice ap ps.length cp) (.slice am ms.length cm) false) rfl (r8_one _ _ _ _ rfl rfl rfl rfl) (by rfl) (by rfl) z8 rfl 68 DZ.out.r6 ?_
      refine hK1.out _ _ ⟨s1.out, s2.out⟩ (fun hH => ?_)
      clear hK1
      refine wpAnyH_ready (rs := [3]) (by kernel_rfl) (by simp) (AllReadyH.cons rfl (fun K1 hK1 => ?_) AllReadyH.nil)
      refine stepStoreA A24 (by rfl) _ _ (by rfl) g7 (hc A) (by rw [hc_size, LX.out]) (hc_one _) (by rfl) (by rfl) (hc zeros) (by rw [hc_size, zeros_len]) 38 k7.out ?_
      refine hK1.out _ _ ⟨s3.out, s4.out⟩ (fun hH => ?_)
      clear hK1
      refine wpAnyH_done (by kernel_rfl) ?_ _
      obtain ⟨e6, e7, es, on⟩ := E5.out
      go_wp2
      refine bodyPost_ret (v := .tuple #[.agg (r8 n (.slice (some ⟨gb, ob, none⟩) bs.length cb) (.slice (some ⟨gi, oi, none⟩) is.length ci) b1 i1 (.slice ap ps.length cp) (.slice am ms.length cm) false), .agg (hc A)]) (resAC A8 A24 Tryd.results25 _ _ g6 g7 68 38 _ _ rfl (by rw [hc_size, LX.out]) rfl e6 rfl e7) rfl ?_
      rw [← HG.out]
      exact ⟨_, _, _, _, _, _, _, _, rfl, LX.out, es, on, by have := HB1.out; have := HBI.out.1; omega, HI1.out, Nat.le_add_right _ _, Nat.le_add_right _ _, HD.out⟩
    · go_upto_region 11 with (first | refine ET.wpLoad ER rfl _ rfl gi (oi + i * 32) rfl A LX.out RX.out ?_ | refine wpList_allocA A24 rfl rfl ?_ | refine wpList_store_newA A24 rfl _ _ rfl _ rfl (hc A) (by rw [hc_size, LX.out]) (hc_one _) rfl rfl ?_)
      generalize W2.alloc (.cells (hc A) 38) = W3 at *
      generalize W2.heap.size = g9 at *
      clear x2 x4 D2 RX
      have x4 : W3.cell? ⟨g3, 4, none⟩ = some (.int .i64 (i : Int)) := D3.out.c 4 (by decide)
      have f4 := D3.out.f 4
      have D4 := hide (D3.out.setI i1)
      have R4 := hide ((Below.heap_setCell W3 ⟨g3, 4, none⟩ (.int .i64 (i1 : Int)) g9 NE.out.1).trans R3.out)
      go_upto_region 13 with fail
      clear x4 f4 D3 R3 w2 i3 i4 h6
      generalize W3.setCell ⟨g3, 4, none⟩ (.int .i64 (i1 : Int)) = W4 at *
      have b5 : Below W4.heap.size W4 (W4.alloc (.cells #[.int .i64 (p : Int)] 3)) := (Below.refl _ _).alloc (Nat.le_refl _) _
      have x5 : W4.cell? ⟨g3, 5, none⟩ = some (.slice ap ps.length cp) := D4.out.c 5 (by decide)
      have D5 := hide (D4.out.next b5)
      have R5 := hide ((b5.block _ (lt_heap R4.out)).trans R4.out)
      have C5 : Hid ((W4.alloc (.cells #[.int .i64 (p : Int)] 3)).cell? ⟨W4.heap.size, 0, none⟩ = some (.int .i64 (p : Int))) := by
        show _ = _
        rw [cell_of_row _ _ _ _ _ _ (heap_alloc_last W4 _)]
        rfl
      clear b5 D4 R4
      go_upto_region 14 with (first | (at_builtin; refine OI.wpApp rfl _ _ rfl rfl D5.out.pl ⟨W4.heap.size, 0, none⟩ rfl p C5.out HB.out.1 ?_; intro v6 w6 o6 on6; obtain ⟨a6, c6, rfl⟩ := o6.form; generalize hl6 : (ps ++ [p]).length = l6 at *; have HL6 := hide hl6; clear hl6; have k3 : w6.heap[g3]? = _ := (on6.grown.block _ (lt_heap D5.out.r3) (fun e => oi_blk D5.out.pl D5.out.r3 (by decide) e.symm)).trans D5.out.r3; have f5 := World.rowIs.frozen ((row8 rfl).2 k3) 5; have y5 : w6.cell? ⟨g3, 5, none⟩ = some (.slice ap ps.length cp) := World.rowIs.cell ((row8 rfl).2 k3) (i := 5) (by decide); have D6 := hide (D5.out.place o6 on6); have R6 := hide ((Below.heap_setCell w6 ⟨g3, 5, none⟩ (.slice a6 l6 c6) g9 NE.out.1).trans ((on6.grown.block g9 (lt_heap R5.out) (fun e => NE.out.2.2.2.1 e.symm)).trans R5.out)); clear o6 on6 k3))
      clear x5 f5 y5 D5 R5 C5
      generalize w6.setCell ⟨g3, 5, none⟩ (.slice a6 l6 c6) = W6 at *
      have b7 : Below W6.heap.size W6 (W6.alloc (.cells (hc A) 38)) := (Below.refl _ _).alloc (Nat.le_refl _) _
      have x6 : W6.cell? ⟨g3, 6, none⟩ = some (.slice am ms.length cm) := D6.out.c 6 (by decide)
      have D7 := hide (D6.out.next b7)
      have R7 := hide ((b7.block _ (lt_heap R6.out)).trans R6.out)
      have N7 := hide (one_newH (e := 38) W6 A)
      have SZ : Hid (ms.length + 1 ≤ 4398046511104) := by
        show _ ≤ _
        have := HB.out.2
        omega
      clear b7
      go_upto_region 15 with (first | refine wpList_loadG6 A24 _ rfl g9 rfl (hc A) (by rw [hc_size, LX.out]) 38 R6.out rfl ?_ | refine ET.wpBs1 ER rfl _ rfl A LX.out rfl ?_ | (at_builtin; refine ET.wpApp ER rfl _ _ rfl (.slice am ms.length cm) ms rfl D7.out.mt ⟨W6.heap.size, 0, none⟩ A LX.out rfl N7.out SZ.out ?_; intro v8 w8 o8 on8; obtain ⟨a8, c8, rfl⟩ := o8.form; generalize hl8 : (ms ++ [A]).length = l8 at *; have HL8 := hide hl8; clear hl8; have k3 : w8.heap[g3]? = _ := (on8.grown.block _ (lt_heap D7.out.r3) (fun e => oh_blk D7.out.mt D7.out.r3 (by decide) e.symm)).trans D7.out.r3; have f6 := World.rowIs.frozen ((row8 rfl).2 k3) 6; have y6 : w8.cell? ⟨g3, 6, none⟩ = some (.slice am ms.length cm) := World.rowIs.cell ((row8 rfl).2 k3) (i := 6) (by decide); have DZ := hide (D7.out.meant o8 on8); have RZ := hide ((Below.heap_setCell w8 ⟨g3, 6, none⟩ (.slice a8 l8 c8) g9 NE.out.1).trans ((on8.grown.block g9 (lt_heap R7.out) (fun e => NE.out.2.2.2.2 e.symm)).trans R7.out)); clear o8 on8 k3))
      clear x6 f6 y6 D6 D7 R6 R7 N7 SZ
      generalize w8.setCell ⟨g3, 6, none⟩ (.slice a8 l8 c8) = WZ at *
      have E5 := hide ((DZ.out.next (Below.refl _ _).drew).fin A)
      have s1 := hide ((setRow_other WZ.drew g6 g3 (r8 n (.slice (some ⟨gb, ob, none⟩) bs.length cb) (.slice (some ⟨gi, oi, none⟩) is.length ci) b1 i1 (.slice a6 l6 c6) (.slice a8 l8 c8) false) DZ.out.n36).trans DZ.out.r3)
      have s2 := hide ((setRow_other WZ.drew g6 g9 (r8 n (.slice (some ⟨gb, ob, none⟩) bs.length cb) (.slice (some ⟨gi, oi, none⟩) is.length ci) b1 i1 (.slice a6 l6 c6) (.slice a8 l8 c8) false) NE.out.2.1).trans RZ.out)
      have s3 := hide ((setRow_other (WZ.drew.setRow g6 (r8 n (.slice (some ⟨gb, ob, none⟩) bs.length cb) (.slice (some ⟨gi, oi, none⟩) is.length ci) b1 i1 (.slice a6 l6 c6) (.slice a8 l8 c8) false)) g7 g3 (hc A) DZ.out.n37).trans s1.out)
      have s4 := hide ((setRow_other (WZ.drew.setRow g6 (r8 n (.slice (some ⟨gb, ob, none⟩) bs.length cb) (.slice (some ⟨gi, oi, none⟩) is.length ci) b1 i1 (.slice a6 l6 c6) (.slice a8 l8 c8) false)) g7 g9 (hc A) NE.out.2.2.1).trans s2.out)
      have k7 := hide ((setRow_other WZ.drew g6 g7 (r8 n (.slice (some ⟨gb, ob, none⟩) bs.length cb) (.slice (some ⟨gi, oi, none⟩) is.length ci) b1 i1 (.slice a6 l6 c6) (.slice a8 l8 c8) false) (Ne.symm DZ.out.n67)).trans DZ.out.r7)
      refine wp_region_held_drew (S := fun W => W.heap[g3]? = some (.cells (r8 n (.slice (some ⟨gb, ob, none⟩) bs.length cb) (.slice (some ⟨gi, oi, none⟩) is.length ci) b1 i1 (.slice a6 l6 c6) (.slice a8 l8 c8) false) 68 (0, 0)) ∧ W.heap[g9]? = some (.cells (hc A) 38 (0, 0))) (by kernel_rfl) ⟨DZ.out.r3, RZ.out⟩ (fun hH => ?_)
      refine wpAnyH_take (i := 0) (v := .agg (r8 n (.slice (some ⟨gb, ob, none⟩) bs.length cb) (.slice (some ⟨gi, oi, none⟩) is.length ci) b1 i1 (.slice a6 l6 c6) (.slice a8 l8 c8) false)) rfl (by kernel_rfl) (by kernel_rfl) (by kernel_rfl) (fun _ _ _ h => h) (yl_load (by rfl) _ (by rfl) _ (r8 n (.slice (some ⟨gb, ob, none⟩) bs.length cb) (.slice (some ⟨gi, oi, none⟩) is.length ci) b1 i1 (.slice a6 l6 c6) (.slice a8 l8 c8) false) (by rfl) (fun W hS => ld_row A8 rfl hS.1)) hH ?_
      change wpAnyH _ _ _ _ _ _ _ (Act.put _ (some 77) _) _
      simp only [Act.put, List.setIfInBounds_toArray, List.set_cons_zero, List.set_cons_succ]
      refine wpAnyH_take (i := 1) (v := .agg (hc A)) rfl (by kernel_rfl) (by kernel_rfl) (by kernel_rfl) (fun _ _ _ h => h) (yl_load (by rfl) _ (by rfl) _ (hc A) (by rfl) (fun W hS => ld_row A24 (by rw [hc_size, LX.out]) hS.2)) hH ?_
      change wpAnyH _ _ _ _ _ _ _ (Act.put _ (some 78) _) _
      simp only [Act.put, List.setIfInBounds_toArray, List.set_cons_zero, List.set_cons_succ]
      refine wpAnyH_ready (rs := [2]) (by kernel_rfl) (by simp) (AllReadyH.cons rfl (fun K1 hK1 => ?_) AllReadyH.nil)
      refine stepStoreA A8 (by rfl) _ _ (by rfl) g6 (r8 n (.slice (some ⟨gb, ob, none⟩) bs.length cb) (.slice (some ⟨gi, oi, none⟩) is.length ci) b1 i1 (.slice a6 l6 c6) (.slice a8 l8 c8) false) rfl (r8_one _ _ _ _ rfl rfl rfl rfl) (by rfl) (by rfl) z8 rfl 68 DZ.out.r6 ?_
      refine hK1.out _ _ ⟨s1.out, s2.out⟩ (fun hH => ?_)
      clear hK1
      refine wpAnyH_ready (rs := [3]) (by kernel_rfl) (by simp) (AllReadyH.cons rfl (fun K1 hK1 => ?_) AllReadyH.nil)
      refine stepStoreA A24 (by rfl) _ _ (by rfl) g7 (hc A) (by rw [hc_size, LX.out]) (hc_one _) (by rfl) (by rfl) (hc zeros) (by rw [hc_size, zeros_len]) 38 k7.out ?_
      refine hK1.out _ _ ⟨s3.out, s4.out⟩ (fun hH => ?_)
      clear hK1
      refine wpAnyH_done (by kernel_rfl) ?_ _
      obtain ⟨e6, e7, es, on⟩ := E5.out
      go_wp2
      refine bodyPost_ret (v := .tuple #[.agg (r8 n (.slice (some ⟨gb, ob, none⟩) bs.length cb) (.slice (some ⟨gi, oi, none⟩) is.length ci) b1 i1 (.slice a6 l6 c6) (.slice a8 l8 c8) false), .agg (hc A)]) (resAC A8 A24 Tryd.results25 _ _ g6 g7 68 38 _ _ rfl (by rw [hc_size, LX.out]) rfl e6 rfl e7) rfl ?_
      rw [← HG.out]
      exact ⟨_, _, _, _, _, _, ps ++ [p], ms ++ [A], rfl, LX.out, es, on, by have := HB1.out; have := HBI.out.1; omega, HI1.out, by have := hpw.out; rw [List.length_append, List.length_singleton]; omega, by have := hpw.out; rw [List.length_append, List.length_singleton]; omega, HD.out⟩
  · have h6 : (is.length : Int) ≤ (i : Int) := by omega
    have f7 := D2.out.f 7
    have x7 : W2.cell? ⟨g3, 7, none⟩ = some (.bool false) := D2.out.c 7 (by decide)
    have D3 := hide (D2.out.setW true)
    have HD : Hid (DO bs is n k p false b i ps ms true b1 i zeros ps ms) := DO.noId HBI.out.1 (by rw [HBT.out]; exact HBI.out.2.2.1) (by omega)
    clear hid
    rcases hcs with rfl | ⟨rfl, hk0⟩
    all_goals
      go_upto_region 9 with fail
      clear x2 x4 f7 x7 D2
      generalize W2.setCell ⟨g3, 7, none⟩ (.bool true) = W3 at *
      have E3 := hide (D3.out.fin zeros)
      have k7 := hide ((setRow_other W3 g6 g7 (r8 n (.slice (some ⟨gb, ob, none⟩) bs.length cb) (.slice ai is.length ci) b1 i (.slice ap ps.length cp) (.slice am ms.length cm) true) (Ne.symm D3.out.n67)).trans D3.out.r7)
      go_wp2_with (first | refine wpList_loadA A8 rfl _ rfl g3 rfl (r8 n (.slice (some ⟨gb, ob, none⟩) bs.length cb) (.slice ai is.length ci) b1 i (.slice ap ps.length cp) (.slice am ms.length cm) true) rfl 68 D3.out.r3 ?_ | refine wpList_buildA A24 rfl rfl ?_ | refine wpList_storeA A8 rfl _ _ rfl g6 (r8 n (.slice (some ⟨gb, ob, none⟩) bs.length cb) (.slice ai is.length ci) b1 i (.slice ap ps.length cp) (.slice am ms.length cm) true) rfl (r8_one _ _ _ _ rfl rfl rfl rfl) rfl rfl z8 rfl 68 D3.out.r6 ?_ | refine wpList_storeA A24 rfl _ _ rfl g7 (hc zeros) (by rw [hc_size, zeros_len]) (hc_one _) rfl rfl (hc zeros) (by rw [hc_size, zeros_len]) 38 k7.out ?_)
      obtain ⟨e6, e7, es, on⟩ := E3.out
      refine bodyPost_ret (v := .tuple #[.agg (r8 n (.slice (some ⟨gb, ob, none⟩) bs.length cb) (.slice ai is.length ci) b1 i (.slice ap ps.length cp) (.slice am ms.length cm) true), .agg (hc zeros)]) (resAC A8 A24 Tryd.results25 _ _ g6 g7 68 38 _ _ rfl (by rw [hc_size, zeros_len]) rfl e6 rfl e7) rfl ?_
      rw [← HG.out]
      exact ⟨_, _, _, _, _, _, _, _, rfl, zeros_len, es, on, by have := HB1.out; have := HBI.out.1; omega, HBI.out.2.1, Nat.le_add_right _ _, Nat.le_add_right _ _, HD.out⟩
end
end Go.Proofs.YthlaibkdcebekaaDoor
