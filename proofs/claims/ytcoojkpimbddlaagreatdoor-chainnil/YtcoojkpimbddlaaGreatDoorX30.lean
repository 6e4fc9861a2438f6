/- A tree: a node is hung on another one; which blocks stay as they are: its contract. -/
import Derived.Test.YtcoojkpimbddlaaGreatDoorP0
import Derived.Test.YtcoojkpimbddlaaGreatDoorX29
namespace Go.Proofs.YtcoojkpimbddlaaGreatDoor
open Go.RowKit
open Go.Deep
open Go.Maps
set_option linter.unusedVariables false
set_option linter.unusedSimpArgs false
def S4 (gt gm : Nat) (ve : Value) : Nat → Prop := fun g => g = gt ∨ g = gm ∨ ve.ownBlock = some g
section
set_option maxRecDepth 10000
set_option maxHeartbeats 8000000
theorem hang_fr {B w : World} {gt gm n : Nat} {D : DataW Unit} {ve : Value} {L : List Tno} {tu be bh : Nat} (h : Tm4 B w gt gm n D ve L tu be bh) (hm : L.length < 20000) (hnn : n ≤ 1000000) (k : Nat) (hk : k < L.length) (hht : L[k].ht ≤ 1000000) (l : List UInt8) (hl : l.length = 32) (x : Hd) (own : Nat) (hsum : L[k].wk + own < M) (anc sk : Nat)
    (HW : ∀ W, Calls Tryz.prog 47 #[.int .u32 (x.bits.toNat : Int)] W fun e w' => e = .returned (.tuple #[.agg (wn own), .int .i64 0]) ∧ Below W.heap.size W w')
    (HS : ∀ W, Calls Tryz.prog 198 #[.int .i64 ((L[k].ht + 1 : Nat) : Int)] W fun e w' => e = .returned (.int .i64 (sk : Int)) ∧ w' = W)
    (HA : ∀ W, Tm4 B W gt gm n D ve L tu be bh → Calls Tryz.prog 170 #[.pointer (some ⟨gt, 0, none⟩), .int .i64 (k : Int), .int .i64 (sk : Int)] W fun e w' => e = .returned (.int .i64 (anc : Int)) ∧ Below W.heap.size W w')
    (bh' : Nat)
    (HG : ∀ W v, Tm4 B W gt gm (n + 1) (D.put (.string l) (.lit (.int .i64 (L.length : Int)))) v (L.set k (L[k].withYo L.length) ++ [newNo L k hk l hl x own anc]) tu be bh → Calls Tryz.prog 70 #[.pointer (some ⟨gt, 0, none⟩), .int .i64 (L.length : Int)] W fun e w' => e = .returned (.tuple #[]) ∧ Tm4 B w' gt gm (n + 1) (D.put (.string l) (.lit (.int .i64 (L.length : Int)))) v (L.set k (L[k].withYo L.length) ++ [newNo L k hk l hl x own anc]) tu be bh' ∧ Frt (fun g => g = gt) W w') :
    Calls Tryz.prog 121 #[.pointer (some ⟨gt, 0, none⟩), .agg (hc l), .agg x.cells.toArray, .int .i64 (k : Int)] w fun e w' => e = .returned (.tuple #[]) ∧ ∃ v, Tm4 B w' gt gm (n + 1) (D.put (.string l) (.lit (.int .i64 (L.length : Int)))) v (L.set k (L[k].withYo L.length) ++ [newNo L k hk l hl x own anc]) tu be bh' ∧ Frt (S4 gt gm ve) w w' ∧ (∀ g, v.ownBlock = some g → ve.ownBlock = some g ∨ w.heap.size ≤ g) := by
  have s1 : (w.alloc (.cells (hc l) 46)).heap.size = w.heap.size + 1 := by simp
  have r3 := (Below.heap_alloc _ (.cells x.cells.toArray 48) _ (lt_heap (heap_alloc_last w (.cells (hc l) 46)))).trans (heap_alloc_last w (.cells (hc l) 46))
  have r4 := heap_alloc_last (w.alloc (.cells (hc l) 46)) (.cells x.cells.toArray 48)
  have b1 := ((Below.refl w.heap.size w).alloc (Nat.le_refl _) (.cells (hc l) 46)).alloc (by rw [s1]; omega) (.cells x.cells.toArray 48)
  rw [s1] at r4
  have R3 := hide r3
  have R4 := hide r4
  have X1 := hide (h.next b1)
  have F0 := hide (Frt.of_below (S := S4 gt gm ve) b1)
  have H0 := hide h
  obtain ⟨ge, cap, rfl⟩ := h.own.form0 (by omega)
  have SF : Hid (S4 gt gm (.slice (some ⟨ge, 0, none⟩) L.length cap) gt ∧ S4 gt gm (.slice (some ⟨ge, 0, none⟩) L.length cap) gm ∧ S4 gt gm (.slice (some ⟨ge, 0, none⟩) L.length cap) ge) := ⟨.inl rfl, .inr (.inl rfl), .inr (.inr rfl)⟩
  generalize S4 gt gm (.slice (some ⟨ge, 0, none⟩) L.length cap) = SS at *
  have LH : Hid (∀ W, Tm4 B W gt gm n D (.slice (some ⟨ge, 0, none⟩) L.length cap) L tu be bh → W.cell? ⟨ge, k * 114 + 100, none⟩ = some (.int .i64 (L[k].ht : Int)) ∧ W.rangeAt ge (k * 114 + 102) (wn L[k].wk).toList ∧ W.cell? ⟨ge, k * 114 + 112, none⟩ = some (.int .i64 (L[k].yo : Int))) := fun W q => by
    have r := q.own.read.range k hk
    have r' : W.rangeAt ge (k * 114) L[k].cells := by
      have : (0 : Nat) + k * KNo.k = k * 114 := by show 0 + k * 114 = _; omega
      rw [this] at r
      exact r
    exact ⟨L[k].cht r', L[k].rwk r', L[k].cyo r'⟩
  have HWk := hide HW
  have HSk : Hid (∀ W, Calls Tryz.prog 198 #[.int .i64 ((L[k].ht : Int) + 1)] W fun e w' => e = .returned (.int .i64 (sk : Int)) ∧ w' = W) := fun W => by
    have := HS W
    rw [show ((L[k].ht + 1 : Nat) : Int) = (L[k].ht : Int) + 1 by omega] at this
    exact this
  have HAn := hide HA
  have HGw := hide HG
  have HAd : Hid (∀ W, Calls Tryz.prog 181 #[.agg (wn L[k].wk), .agg (wn own)] W fun e w' => e = .returned (.tuple #[.agg (wn (L[k].wk + own)), .bool false]) ∧ Below W.heap.size W w') := fun W => by
    have := wadd_any L[k].wk own (by omega) (by omega) W
    rw [decide_eq_false (by omega)] at this
    exact this
  have CZ := hide (And.intro (show (hc l).size = 32 by rw [hc_size, hl]) (And.intro x.size x.all))
  have WZ := hide (And.intro (And.intro (wn_size own) (wn_one own)) (And.intro (wn_size (L[k].wk + own)) (wn_one (L[k].wk + own))))
  have NZ := hide (And.intro (newNo L k hk l hl x own anc).size (newNo L k hk l hl x own anc).all)
  have BP : Hid (∀ W, (Instr.build 53 #[(0, .agg (hc l)), (1, .agg x.cells.toArray), (2, .int .i64 ((L[k].ht : Int) + 1)), (3, .int .i64 (L.length : Int)), (4, .agg (wn (L[k].wk + own)))]).run Tryz.prog W = .ok (.agg (⟨l, x, L[k].ht + 1, L.length, L[k].wk + own, false, false, false, 0, 0, 0, 0, 0, hl⟩ : Tno).pub.toArray) W) := fun W => by
    have := bld_pub l hl x (L[k].ht + 1) L.length (L[k].wk + own) W
    rw [show ((L[k].ht + 1 : Nat) : Int) = (L[k].ht : Int) + 1 by omega] at this
    exact this
  have BN : Hid (∀ W, (Instr.build 120 #[(0, .agg (⟨l, x, L[k].ht + 1, L.length, L[k].wk + own, false, false, false, 0, 0, 0, 0, 0, hl⟩ : Tno).pub.toArray), (1, .int .i64 (k : Int)), (2, .int .i64 (anc : Int)), (4, .int .i64 (L[k].yo : Int))]).run Tryz.prog W = .ok (.agg (newNo L k hk l hl x own anc).cells.toArray) W) := fun W => bld_node l hl x (L[k].ht + 1) L.length (L[k].wk + own) k anc L[k].yo W
  have CB : Hid (∀ (W : World) (g : Nat), W.heap[g]? = some (.cells x.cells.toArray 48 (0, 0)) → W.cell? ⟨g, 66, none⟩ = some (.int .u32 (x.bits.toNat : Int))) := fun W g e => by
    have q1 := x.bits0 (rowAt _ e)
    rw [Nat.zero_add] at q1
    exact q1
  have SY := hide (fun W (q : Tm4 B W gt gm n D (.slice (some ⟨ge, 0, none⟩) L.length cap) L tu be bh) => q.setYo k hk L.length)
  have LP : Hid (∀ (W : World) (L' : List Tno) (v' : Value), Tm4 B W gt gm n D v' L' tu be bh → ∃ W', (Instr.mapUpdate 118 (.map (some gm)) (.agg (hc l)) (.int .i64 (L.length : Int))).run Tryz.prog W = .ok () W' ∧ Tm4 B W' gt gm (n + 1) (D.put (.string l) (.lit (.int .i64 (L.length : Int)))) v' L' tu be bh ∧ W.grownBy W' (some gm)) := fun W L' v' q => by
    obtain ⟨W', hr, ho, hg⟩ := q.map.store (val := .int .i64 (L.length : Int)) (d := .lit (.int .i64 (L.length : Int))) (ps := []) lawH14 Tryz.underlying118 (by unfold maxLen; omega) (keyH14 l hl) (plainElem_int Tryz.underlying3 (by simp [Lit.wf, IntKind.min, IntKind.max, IntKind.signed, IntKind.bits]; omega))
    exact ⟨W', hr, q.putM ho hg.grown, hg.grown⟩
  have x1 : (k : Int) < (L.length : Int) := by omega
  have x2 : (0 : Int) ≤ (k : Int) := by omega
  have x3 : IntKind.i64.wrap ((L[k].ht : Int) + 1) = (L[k].ht : Int) + 1 := wrapI _ (by omega) (by omega)
  have HN := hide hm
  have LL : Hid ((L.set k (L[k].withYo L.length)).length = L.length) := List.length_set ..
  have LG := hide (show w.heap.size ≤ w.heap.size + 1 by omega)
  clear b1 r3 r4 h HW HS HA HG hht hsum hm hnn
  generalize L.set k (L[k].withYo L.length) = LY at *
  generalize hNN : newNo L k hk l hl x own anc = NN at *
  have ENN : Hid ((KNo.enc NN).toArray = NN.cells.toArray) := rfl
  clear hNN
  generalize (⟨l, x, L[k].ht + 1, L.length, L[k].wk + own, false, false, false, 0, 0, 0, 0, 0, hl⟩ : Tno).pub.toArray = PP at *
  generalize D.put (.string l) (.lit (.int .i64 (L.length : Int))) = DD at *
  generalize L[k].wk + own = SU at *
  generalize L[k].wk = WK at *
  generalize L[k].ht = z at *
  generalize L[k].yo = yo at *
  generalize x.bits.toNat = NB at *
  generalize hc l = C at *
  generalize x.cells.toArray = CX at *
  clear hk
  go_enter Tryz.func121, Tryz.ntmps121
  go_upto_region 1 with ((with_reducible refine at_list ?_); first | refine wpList_boxA rfl _ rfl C rfl ?_ | refine wpList_boxA rfl _ rfl CX rfl ?_)
  try rw [s1]
  clear s1
  generalize (w.alloc (.cells C 46)).alloc (.cells CX 48) = W0 at *
  have X2 := hide (X1.out.next (Below.refl W0.heap.size W0).drew)
  have F2 := hide (F0.out.next (Below.refl W0.heap.size W0).drew)
  clear F0
  have R3b := hide (show W0.drew.heap[w.heap.size]? = _ from R3.out)
  have R4b := hide (show W0.drew.heap[w.heap.size + 1]? = _ from R4.out)
  refine wp_region_held_drew (S := fun W => Tm4 B W gt gm n D (.slice (some ⟨ge, 0, none⟩) L.length cap) L tu be bh) (by kernel_rfl) X2.out (fun hH => ?_)
  generalize W0.drew = V1 at *
  refine wt (i := 0) (v := (.pointer (some ⟨gt, 0, none⟩))) rfl (yl_move (by rfl) _ (by rfl) _ (by rfl)) hH ?_
  change wpAnyH _ _ _ _ _ _ _ (Act.put _ (some 16) _) _
  simp only [Act.put, s0, s1, s2]
  refine wt (i := 1) (v := (.pointer (some ⟨gt, 0, none⟩))) rfl (.inl ⟨by rfl, fun W _ => by go_simp⟩) hH ?_
  change wpAnyH _ _ _ _ _ _ _ (Act.put _ (some 17) _) _
  simp only [Act.put, s0, s1, s2]
  refine wt (i := 2) (v := (.pointer (some ⟨gt, 1, none⟩))) rfl (.inl ⟨by rfl, fun W _ => by go_simp⟩) hH ?_
  change wpAnyH _ _ _ _ _ _ _ (Act.put _ (some 18) _) _
  simp only [Act.put, s0, s1, s2]
  refine wt (i := 3) (v := (.slice (some ⟨ge, 0, none⟩) L.length cap)) rfl (.inl ⟨by rfl, fun W hS => by have c4 := hS.cells.2.1; go_simp⟩) hH ?_
  change wpAnyH _ _ _ _ _ _ _ (Act.put _ (some 19) _) _
  simp only [Act.put, s0, s1, s2]
  refine wt (i := 4) (v := (.int .i64 (L.length : Int))) rfl (.inl ⟨by rfl, fun W _ => by go_simp⟩) hH ?_
  change wpAnyH _ _ _ _ _ _ _ (Act.put _ (some 20) _) _
  simp only [Act.put, s0, s1, s2]
  refine wt (i := 5) (v := (.pointer (some ⟨gt, 0, none⟩))) rfl (yl_move (by rfl) _ (by rfl) _ (by rfl)) hH ?_
  change wpAnyH _ _ _ _ _ _ _ (Act.put _ (some 21) _) _
  simp only [Act.put, s0, s1, s2]
  refine wt (i := 6) (v := (.pointer (some ⟨gt, 0, none⟩))) rfl (.inl ⟨by rfl, fun W _ => by go_simp⟩) hH ?_
  change wpAnyH _ _ _ _ _ _ _ (Act.put _ (some 22) _) _
  simp only [Act.put, s0, s1, s2]
  refine wt (i := 7) (v := (.pointer (some ⟨gt, 1, none⟩))) rfl (.inl ⟨by rfl, fun W _ => by go_simp⟩) hH ?_
  change wpAnyH _ _ _ _ _ _ _ (Act.put _ (some 23) _) _
  simp only [Act.put, s0, s1, s2]
  refine wt (i := 8) (v := (.slice (some ⟨ge, 0, none⟩) L.length cap)) rfl (.inl ⟨by rfl, fun W hS => by have c4 := hS.cells.2.1; go_simp⟩) hH ?_
  change wpAnyH _ _ _ _ _ _ _ (Act.put _ (some 24) _) _
  simp only [Act.put, s0, s1, s2]
  refine wt (i := 9) (v := (.int .i64 (k : Int))) rfl (yl_move (by rfl) _ (by rfl) _ (by rfl)) hH ?_
  change wpAnyH _ _ _ _ _ _ _ (Act.put _ (some 25) _) _
  simp only [Act.put, s0, s1, s2]
  refine wt (i := 10) (v := (.pointer (some ⟨ge, k * 114, none⟩))) rfl (.inl ⟨by rfl, fun W _ => by go_simp⟩) hH ?_
  change wpAnyH _ _ _ _ _ _ _ (Act.put _ (some 26) _) _
  simp only [Act.put, s0, s1, s2]
  refine wt (i := 11) (v := (.int .i64 (L.length : Int))) rfl (.inl ⟨by rfl, fun W _ => by go_simp⟩) hH ?_
  change wpAnyH _ _ _ _ _ _ _ (Act.put _ (some 8) _) _
  simp only [Act.put, s0, s1, s2]
  refine wt (i := 12) (v := (.pointer (some ⟨ge, k * 114, none⟩))) rfl (.inl ⟨by rfl, fun W _ => by go_simp⟩) hH ?_
  change wpAnyH _ _ _ _ _ _ _ (Act.put _ (some 9) _) _
  simp only [Act.put, s0, s1, s2]
  refine wpAnyH_done (by kernel_rfl) ?_ _
  clear hH
  have c4 := CB.out _ _ R4b.out
  go_upto_region 3 with (first | (go_at_call 47; refine (HWk.out _).mono ?_; rintro e W5 ⟨rfl, be⟩; have B5 := hide be; clear be) | ((with_reducible refine at_list ?_); first | refine wpList_allocA AW rfl rfl ?_ | refine wpList_store_newA AW rfl _ _ rfl _ rfl (wn own) WZ.out.1.1 WZ.out.1.2 rfl rfl ?_))
  have b6 := (Below.refl W5.heap.size W5).alloc (Nat.le_refl _) (.cells (wn own) 51)
  have B6 := hide (below_next B5.out b6)
  have X6 := hide (X2.out.next B6.out)
  have F6 := hide (F2.out.next B6.out)
  clear F2
  have R6 := hide (heap_alloc_last W5 (.cells (wn own) 51))
  have R3c := hide ((B6.out.block _ (lt_heap R3b.out)).trans R3b.out)
  have R4c := hide ((B6.out.block _ (lt_heap R4b.out)).trans R4b.out)
  clear b6 c4 B5 B6 R3b R4b R3 R4 X1 X2 HWk CB
  generalize W5.alloc (.cells (wn own) 51) = W6 at *
  generalize W5.heap.size = g10 at *
  go_cut [12, 13] from 33 to 42 (fun s12 s13 wx => ∃ g12, s12 = .pointer (some ⟨g12, 0, none⟩) ∧ s13 = .bool false ∧ Hid (Below W6.heap.size W6 wx ∧ wx.heap[g12]? = some (.cells (wn SU) 51 (0, 0))))
  case first =>
    have DV0 := hide (Below.refl W6.heap.size W6).drew
    refine wp_region_held_drew (S := fun W => Below W6.heap.size W6 W) (by kernel_rfl) DV0.out (fun hH => ?_)
    generalize W6.drew = V0 at *
    refine wt (i := 0) (v := (.pointer (some ⟨ge, k * 114, none⟩))) rfl (yl_move (by rfl) _ (by rfl) _ (by rfl)) hH ?_
    change wpAnyH _ _ _ _ _ _ _ (Act.put _ (some 34) _) _
    simp only [Act.put, s0, s1, s2]
    refine wt (i := 1) (v := (.pointer (some ⟨ge, k * 114, none⟩))) rfl (.inl ⟨by rfl, fun W _ => by go_simp⟩) hH ?_
    change wpAnyH _ _ _ _ _ _ _ (Act.put _ (some 35) _) _
    simp only [Act.put, s0, s1, s2]
    refine wt (i := 2) (v := (.pointer (some ⟨ge, k * 114, none⟩))) rfl (.inl ⟨by rfl, fun W _ => by go_simp⟩) hH ?_
    change wpAnyH _ _ _ _ _ _ _ (Act.put _ (some 36) _) _
    simp only [Act.put, s0, s1, s2]
    refine wt (i := 3) (v := (.pointer (some ⟨ge, k * 114 + 102, none⟩))) rfl (.inl ⟨by rfl, fun W _ => by go_simp⟩) hH ?_
    change wpAnyH _ _ _ _ _ _ _ (Act.put _ (some 37) _) _
    simp only [Act.put, s0, s1, s2]
    refine wt (i := 4) (v := (.agg (wn WK))) rfl (yl_load (by rfl) _ (by rfl) _ (wn WK) (by rfl) (fun W hS => ldW14 (LH.out W (X6.out.next hS)).2.1)) hH ?_
    change wpAnyH _ _ _ _ _ _ _ (Act.put _ (some 38) _) _
    simp only [Act.put, s0, s1, s2]
    refine wt (i := 5) (v := (.agg (wn own))) rfl (yl_load (by rfl) _ (by rfl) _ (wn own) (by rfl) (fun W hS => ld_row AW WZ.out.1.1 ((hS.block _ (lt_heap R6.out)).trans R6.out))) hH ?_
    change wpAnyH _ _ _ _ _ _ _ (Act.put _ (some 39) _) _
    simp only [Act.put, s0, s1, s2]
    refine wpAnyH_ready (rs := [6, 10]) (by kernel_rfl) (by simp) (AllReadyH.cons rfl (fun K1 hK1 => ?_) (AllReadyH.cons rfl (fun K1 hK1 => ?_) AllReadyH.nil))
    · go_simp
      refine (HAd.out V0).mono ?_
      rintro r V1a ⟨rfl, be⟩
      have DV1a := hide (below_next DV0.out be)
      clear be
      refine hK1.out _ _ DV1a.out (fun hH => ?_)
      clear hK1
      refine wt (i := 7) (v := (.tuple #[.agg (wn SU), .bool false])) rfl (yl_move (by rfl) _ (by rfl) _ (by rfl)) hH ?_
      change wpAnyH _ _ _ _ _ _ _ (Act.put _ (some 33) _) _
      simp only [Act.put, s0, s1, s2]
      refine wt (i := 8) (v := (.agg (wn SU))) rfl (.inl ⟨by rfl, fun W _ => by go_simp⟩) hH ?_
      change wpAnyH _ _ _ _ _ _ _ (Act.put _ (some 41) _) _
      simp only [Act.put, s0, s1, s2]
      refine wt (i := 9) (v := (.bool false)) rfl (.inl ⟨by rfl, fun W _ => by go_simp⟩) hH ?_
      change wpAnyH _ _ _ _ _ _ _ (Act.put _ (some 42) _) _
      simp only [Act.put, s0, s1, s2]
      refine wpAnyH_ready (rs := [10]) (by kernel_rfl) (by simp) (AllReadyH.cons rfl (fun K1 hK1 => ?_) AllReadyH.nil)
      have RV2a := hide (heap_alloc_last V1a (.cells (wn 0) 51))
      have DV2a := hide (below_next DV1a.out ((Below.refl V1a.heap.size V1a).alloc (Nat.le_refl _) (.cells (wn 0) 51)))
      have G12 : Hid (W6.heap.size ≤ V1a.heap.size) := DV1a.out.size
      refine stepAllocA AW (by rfl) (by rfl) ?_
      refine hK1.out _ _ DV2a.out (fun hH => ?_)
      clear hK1
      change wpAnyH _ _ _ _ _ _ _ (Act.put _ (some 12) _) _
      simp only [Act.put, s0, s1, s2]
      generalize V1a.alloc (.cells (wn 0) 51) = V2a at *
      generalize V1a.heap.size = g12 at *
      refine wpAnyH_ready (rs := [11]) (by kernel_rfl) (by simp) (AllReadyH.cons rfl (fun K1 hK1 => ?_) AllReadyH.nil)
      refine stepStoreA AW (by rfl) _ _ (by rfl) g12 (wn SU) WZ.out.2.1 WZ.out.2.2 (by rfl) (by rfl) (wn 0) (wn_size 0) _ RV2a.out ?_
      have DE := hide (below_setRow DV2a.out G12.out (wn SU))
      have RE := hide (setRow_heap _ _ _ (wn SU) _ _ RV2a.out)
      refine hK1.out _ _ DE.out (fun hH => ?_)
      clear hK1
      change wpAnyH _ _ _ _ _ _ _ (Act.put _ none _) _
      simp only [Act.put]
      refine wt (i := 12) (v := (.bool false)) rfl (.inl ⟨by rfl, fun W _ => by go_simp⟩) hH ?_
      change wpAnyH _ _ _ _ _ _ _ (Act.put _ (some 13) _) _
      simp only [Act.put, s0, s1, s2]
      refine wpAnyH_done (by kernel_rfl) ?_ _
      go_wp2_with fail
      go_meet
      exact ⟨g12, rfl, rfl, DE.out, RE.out⟩
    · have RV1a := hide (heap_alloc_last V0 (.cells (wn 0) 51))
      have DV1a := hide (below_next DV0.out ((Below.refl V0.heap.size V0).alloc (Nat.le_refl _) (.cells (wn 0) 51)))
      have G12 : Hid (W6.heap.size ≤ V0.heap.size) := DV0.out.size
      refine stepAllocA AW (by rfl) (by rfl) ?_
      refine hK1.out _ _ DV1a.out (fun hH => ?_)
      clear hK1
      change wpAnyH _ _ _ _ _ _ _ (Act.put _ (some 12) _) _
      simp only [Act.put, s0, s1, s2]
      generalize V0.alloc (.cells (wn 0) 51) = V1a at *
      generalize V0.heap.size = g12 at *
      refine wpAnyH_ready (rs := [6]) (by kernel_rfl) (by simp) (AllReadyH.cons rfl (fun K1 hK1 => ?_) AllReadyH.nil)
      go_simp
      refine (HAd.out V1a).mono ?_
      rintro r V2a ⟨rfl, be⟩
      have DV2a := hide (below_next DV1a.out be)
      have RV2a := hide ((be.block _ (lt_heap RV1a.out)).trans RV1a.out)
      clear be
      refine hK1.out _ _ DV2a.out (fun hH => ?_)
      clear hK1
      refine wt (i := 7) (v := (.tuple #[.agg (wn SU), .bool false])) rfl (yl_move (by rfl) _ (by rfl) _ (by rfl)) hH ?_
      change wpAnyH _ _ _ _ _ _ _ (Act.put _ (some 33) _) _
      simp only [Act.put, s0, s1, s2]
      refine wt (i := 8) (v := (.agg (wn SU))) rfl (.inl ⟨by rfl, fun W _ => by go_simp⟩) hH ?_
      change wpAnyH _ _ _ _ _ _ _ (Act.put _ (some 41) _) _
      simp only [Act.put, s0, s1, s2]
      refine wt (i := 9) (v := (.bool false)) rfl (.inl ⟨by rfl, fun W _ => by go_simp⟩) hH ?_
      change wpAnyH _ _ _ _ _ _ _ (Act.put _ (some 42) _) _
      simp only [Act.put, s0, s1, s2]
      refine wpAnyH_ready (rs := [11]) (by kernel_rfl) (by simp) (AllReadyH.cons rfl (fun K1 hK1 => ?_) AllReadyH.nil)
      refine stepStoreA AW (by rfl) _ _ (by rfl) g12 (wn SU) WZ.out.2.1 WZ.out.2.2 (by rfl) (by rfl) (wn 0) (wn_size 0) _ RV2a.out ?_
      have DE := hide (below_setRow DV2a.out G12.out (wn SU))
      have RE := hide (setRow_heap _ _ _ (wn SU) _ _ RV2a.out)
      refine hK1.out _ _ DE.out (fun hH => ?_)
      clear hK1
      change wpAnyH _ _ _ _ _ _ _ (Act.put _ none _) _
      simp only [Act.put]
      refine wt (i := 12) (v := (.bool false)) rfl (.inl ⟨by rfl, fun W _ => by go_simp⟩) hH ?_
      change wpAnyH _ _ _ _ _ _ _ (Act.put _ (some 13) _) _
      simp only [Act.put, s0, s1, s2]
      refine wpAnyH_done (by kernel_rfl) ?_ _
      go_wp2_with fail
      go_meet
      exact ⟨g12, rfl, rfl, DE.out, RE.out⟩
  obtain ⟨g12, rfl, rfl, J12⟩ := hcut
  generalize wc = wx at *
  have X7 := hide (X6.out.next J12.out.1)
  have F7 := hide (F6.out.next J12.out.1)
  clear F6
  have R3d := hide ((J12.out.1.block _ (lt_heap R3c.out)).trans R3c.out)
  have R4d := hide ((J12.out.1.block _ (lt_heap R4c.out)).trans R4c.out)
  have R12 := hide J12.out.2
  clear J12 R6 R3c R4c X6 HAd
  have c100 := (LH.out _ X7.out).1
  go_upto_region 5 with fail
  clear c100
  go_cut [15] from 49 to 65 (fun s15 wy => ∃ g15, s15 = .pointer (some ⟨g15, 0, none⟩) ∧ Hid (Below wx.heap.size wx wy ∧ wx.heap.size ≤ g15 ∧ wy.heap[g15]? = some (.cells NN.cells.toArray 120 (0, 0))))
  case first =>
    have DV0 := hide (Below.refl wx.heap.size wx).drew
    refine wp_region_held_drew (S := fun W => Below wx.heap.size wx W) (by kernel_rfl) DV0.out (fun hH => ?_)
    generalize wx.drew = V0 at *
    refine wt (i := 0) (v := (.agg C)) rfl (yl_load (by rfl) _ (by rfl) _ C (by rfl) (fun W hS => ld_row A25 CZ.out.1 ((hS.block _ (lt_heap R3d.out)).trans R3d.out))) hH ?_
    change wpAnyH _ _ _ _ _ _ _ (Act.put _ (some 49) _) _
    simp only [Act.put, s0, s1, s2]
    refine wt (i := 1) (v := (.agg CX)) rfl (yl_load (by rfl) _ (by rfl) _ CX (by rfl) (fun W hS => ld_row AHd CZ.out.2.1 ((hS.block _ (lt_heap R4d.out)).trans R4d.out))) hH ?_
    change wpAnyH _ _ _ _ _ _ _ (Act.put _ (some 50) _) _
    simp only [Act.put, s0, s1, s2]
    refine wt (i := 2) (v := (.int .i64 ((z : Int) + 1))) rfl (yl_move (by rfl) _ (by rfl) _ (by rfl)) hH ?_
    change wpAnyH _ _ _ _ _ _ _ (Act.put _ (some 51) _) _
    simp only [Act.put, s0, s1, s2]
    refine wt (i := 3) (v := (.int .i64 (L.length : Int))) rfl (yl_move (by rfl) _ (by rfl) _ (by rfl)) hH ?_
    change wpAnyH _ _ _ _ _ _ _ (Act.put _ (some 52) _) _
    simp only [Act.put, s0, s1, s2]
    refine wt (i := 4) (v := (.agg (wn SU))) rfl (yl_load (by rfl) _ (by rfl) _ (wn SU) (by rfl) (fun W hS => ld_row AW WZ.out.2.1 ((hS.block _ (lt_heap R12.out)).trans R12.out))) hH ?_
    change wpAnyH _ _ _ _ _ _ _ (Act.put _ (some 53) _) _
    simp only [Act.put, s0, s1, s2]
    refine wt (i := 5) (v := (.agg PP)) rfl (yl_build (by rfl) _ (by rfl) #[(0, .agg C), (1, .agg CX), (2, .int .i64 ((z : Int) + 1)), (3, .int .i64 (L.length : Int)), (4, .agg (wn SU))] PP (by simp only [List.map_toArray, List.map_cons, List.map_nil]; rfl) BP.out) hH ?_
    change wpAnyH _ _ _ _ _ _ _ (Act.put _ (some 54) _) _
    simp only [Act.put, s0, s1, s2]
    refine wt (i := 6) (v := (.int .i64 (k : Int))) rfl (yl_move (by rfl) _ (by rfl) _ (by rfl)) hH ?_
    change wpAnyH _ _ _ _ _ _ _ (Act.put _ (some 55) _) _
    simp only [Act.put, s0, s1, s2]
    refine wt (i := 7) (v := (.pointer (some ⟨gt, 0, none⟩))) rfl (yl_move (by rfl) _ (by rfl) _ (by rfl)) hH ?_
    change wpAnyH _ _ _ _ _ _ _ (Act.put _ (some 56) _) _
    simp only [Act.put, s0, s1, s2]
    refine wt (i := 8) (v := (.int .i64 (k : Int))) rfl (yl_move (by rfl) _ (by rfl) _ (by rfl)) hH ?_
    change wpAnyH _ _ _ _ _ _ _ (Act.put _ (some 57) _) _
    simp only [Act.put, s0, s1, s2]
    refine wt (i := 9) (v := (.int .i64 ((z : Int) + 1))) rfl (yl_move (by rfl) _ (by rfl) _ (by rfl)) hH ?_
    change wpAnyH _ _ _ _ _ _ _ (Act.put _ (some 58) _) _
    simp only [Act.put, s0, s1, s2]
    refine wt (i := 12) (v := (.pointer (some ⟨ge, k * 114, none⟩))) rfl (yl_move (by rfl) _ (by rfl) _ (by rfl)) hH ?_
    change wpAnyH _ _ _ _ _ _ _ (Act.put _ (some 61) _) _
    simp only [Act.put, s0, s1, s2]
    refine wt (i := 13) (v := (.pointer (some ⟨ge, k * 114, none⟩))) rfl (.inl ⟨by rfl, fun W _ => by go_simp⟩) hH ?_
    change wpAnyH _ _ _ _ _ _ _ (Act.put _ (some 62) _) _
    simp only [Act.put, s0, s1, s2]
    refine wt (i := 14) (v := (.pointer (some ⟨ge, k * 114 + 112, none⟩))) rfl (.inl ⟨by rfl, fun W _ => by go_simp⟩) hH ?_
    change wpAnyH _ _ _ _ _ _ _ (Act.put _ (some 63) _) _
    simp only [Act.put, s0, s1, s2]
    refine wt (i := 15) (v := (.int .i64 (yo : Int))) rfl (.inl ⟨by rfl, fun W hS => by have c4 := (LH.out W (X7.out.next hS)).2.2; go_simp⟩) hH ?_
    change wpAnyH _ _ _ _ _ _ _ (Act.put _ (some 64) _) _
    simp only [Act.put, s0, s1, s2]
    refine wpAnyH_ready (rs := [10, 17]) (by kernel_rfl) (by simp) (AllReadyH.cons rfl (fun K1 hK1 => ?_) (AllReadyH.cons rfl (fun K1 hK1 => ?_) AllReadyH.nil))
    · go_simp
      refine (HSk.out V0).mono ?_
      rintro r wq ⟨rfl, hq⟩
      subst wq
      refine hK1.out _ _ DV0.out (fun hH => ?_)
      clear hK1
      refine wpAnyH_ready (rs := [11, 17]) (by kernel_rfl) (by simp) (AllReadyH.cons rfl (fun K1 hK1 => ?_) (AllReadyH.cons rfl (fun K1 hK1 => ?_) AllReadyH.nil))
      · go_simp
        refine (HAn.out V0 (X7.out.next DV0.out)).mono ?_
        rintro r V1a ⟨rfl, be⟩
        have DV1a := hide (below_next DV0.out be)
        clear be
        refine hK1.out _ _ DV1a.out (fun hH => ?_)
        clear hK1
        refine wt (i := 16) (v := (.agg NN.cells.toArray)) rfl (yl_build (by rfl) _ (by rfl) #[(0, .agg PP), (1, .int .i64 (k : Int)), (2, .int .i64 (anc : Int)), (4, .int .i64 (yo : Int))] NN.cells.toArray (by simp only [List.map_toArray, List.map_cons, List.map_nil]; rfl) BN.out) hH ?_
        change wpAnyH _ _ _ _ _ _ _ (Act.put _ (some 65) _) _
        simp only [Act.put, s0, s1, s2]
        refine wpAnyH_ready (rs := [17]) (by kernel_rfl) (by simp) (AllReadyH.cons rfl (fun K1 hK1 => ?_) AllReadyH.nil)
        have RV2a := hide (heap_alloc_last V1a (.cells zTno.cells.toArray 120))
        have DV2a := hide (below_next DV1a.out ((Below.refl V1a.heap.size V1a).alloc (Nat.le_refl _) (.cells zTno.cells.toArray 120)))
        have G15 : Hid (wx.heap.size ≤ V1a.heap.size) := DV1a.out.size
        refine stepAllocA ANn (by rfl) (by rfl) ?_
        refine hK1.out _ _ DV2a.out (fun hH => ?_)
        clear hK1
        change wpAnyH _ _ _ _ _ _ _ (Act.put _ (some 15) _) _
        simp only [Act.put, s0, s1, s2]
        generalize V1a.alloc (.cells zTno.cells.toArray 120) = V2a at *
        generalize V1a.heap.size = g15 at *
        refine wpAnyH_ready (rs := [18]) (by kernel_rfl) (by simp) (AllReadyH.cons rfl (fun K1 hK1 => ?_) AllReadyH.nil)
        refine stepStoreA ANn (by rfl) _ _ (by rfl) g15 NN.cells.toArray NZ.out.1 NZ.out.2 (by rfl) (by rfl) zTno.cells.toArray zTno.size _ RV2a.out ?_
        have DE := hide (below_setRow DV2a.out G15.out NN.cells.toArray)
        have RE := hide (setRow_heap _ _ _ NN.cells.toArray _ _ RV2a.out)
        refine hK1.out _ _ DE.out (fun hH => ?_)
        clear hK1
        change wpAnyH _ _ _ _ _ _ _ (Act.put _ none _) _
        simp only [Act.put]
        refine wpAnyH_done (by kernel_rfl) ?_ _
        go_wp2_with fail
        go_meet
        exact ⟨g15, rfl, DE.out, G15.out, RE.out⟩
      · have RV1a := hide (heap_alloc_last V0 (.cells zTno.cells.toArray 120))
        have DV1a := hide (below_next DV0.out ((Below.refl V0.heap.size V0).alloc (Nat.le_refl _) (.cells zTno.cells.toArray 120)))
        have G15 : Hid (wx.heap.size ≤ V0.heap.size) := DV0.out.size
        refine stepAllocA ANn (by rfl) (by rfl) ?_
        refine hK1.out _ _ DV1a.out (fun hH => ?_)
        clear hK1
        change wpAnyH _ _ _ _ _ _ _ (Act.put _ (some 15) _) _
        simp only [Act.put, s0, s1, s2]
        generalize V0.alloc (.cells zTno.cells.toArray 120) = V1a at *
        generalize V0.heap.size = g15 at *
        refine wpAnyH_ready (rs := [11]) (by kernel_rfl) (by simp) (AllReadyH.cons rfl (fun K1 hK1 => ?_) AllReadyH.nil)
        go_simp
        refine (HAn.out V1a (X7.out.next DV1a.out)).mono ?_
        rintro r V2a ⟨rfl, be⟩
        have DV2a := hide (below_next DV1a.out be)
        have RV2a := hide ((be.block _ (lt_heap RV1a.out)).trans RV1a.out)
        clear be
        refine hK1.out _ _ DV2a.out (fun hH => ?_)
        clear hK1
        refine wt (i := 16) (v := (.agg NN.cells.toArray)) rfl (yl_build (by rfl) _ (by rfl) #[(0, .agg PP), (1, .int .i64 (k : Int)), (2, .int .i64 (anc : Int)), (4, .int .i64 (yo : Int))] NN.cells.toArray (by simp only [List.map_toArray, List.map_cons, List.map_nil]; rfl) BN.out) hH ?_
        change wpAnyH _ _ _ _ _ _ _ (Act.put _ (some 65) _) _
        simp only [Act.put, s0, s1, s2]
        refine wpAnyH_ready (rs := [18]) (by kernel_rfl) (by simp) (AllReadyH.cons rfl (fun K1 hK1 => ?_) AllReadyH.nil)
        refine stepStoreA ANn (by rfl) _ _ (by rfl) g15 NN.cells.toArray NZ.out.1 NZ.out.2 (by rfl) (by rfl) zTno.cells.toArray zTno.size _ RV2a.out ?_
        have DE := hide (below_setRow DV2a.out G15.out NN.cells.toArray)
        have RE := hide (setRow_heap _ _ _ NN.cells.toArray _ _ RV2a.out)
        refine hK1.out _ _ DE.out (fun hH => ?_)
        clear hK1
        change wpAnyH _ _ _ _ _ _ _ (Act.put _ none _) _
        simp only [Act.put]
        refine wpAnyH_done (by kernel_rfl) ?_ _
        go_wp2_with fail
        go_meet
        exact ⟨g15, rfl, DE.out, G15.out, RE.out⟩
    · have RV1a := hide (heap_alloc_last V0 (.cells zTno.cells.toArray 120))
      have DV1a := hide (below_next DV0.out ((Below.refl V0.heap.size V0).alloc (Nat.le_refl _) (.cells zTno.cells.toArray 120)))
      have G15 : Hid (wx.heap.size ≤ V0.heap.size) := DV0.out.size
      refine stepAllocA ANn (by rfl) (by rfl) ?_
      refine hK1.out _ _ DV1a.out (fun hH => ?_)
      clear hK1
      change wpAnyH _ _ _ _ _ _ _ (Act.put _ (some 15) _) _
      simp only [Act.put, s0, s1, s2]
      generalize V0.alloc (.cells zTno.cells.toArray 120) = V1a at *
      generalize V0.heap.size = g15 at *
      refine wpAnyH_ready (rs := [10]) (by kernel_rfl) (by simp) (AllReadyH.cons rfl (fun K1 hK1 => ?_) AllReadyH.nil)
      go_simp
      refine (HSk.out V1a).mono ?_
      rintro r wq ⟨rfl, hq⟩
      subst wq
      refine hK1.out _ _ DV1a.out (fun hH => ?_)
      clear hK1
      refine wpAnyH_ready (rs := [11]) (by kernel_rfl) (by simp) (AllReadyH.cons rfl (fun K1 hK1 => ?_) AllReadyH.nil)
      go_simp
      refine (HAn.out V1a (X7.out.next DV1a.out)).mono ?_
      rintro r V2a ⟨rfl, be⟩
      have DV2a := hide (below_next DV1a.out be)
      have RV2a := hide ((be.block _ (lt_heap RV1a.out)).trans RV1a.out)
      clear be
      refine hK1.out _ _ DV2a.out (fun hH => ?_)
      clear hK1
      refine wt (i := 16) (v := (.agg NN.cells.toArray)) rfl (yl_build (by rfl) _ (by rfl) #[(0, .agg PP), (1, .int .i64 (k : Int)), (2, .int .i64 (anc : Int)), (4, .int .i64 (yo : Int))] NN.cells.toArray (by simp only [List.map_toArray, List.map_cons, List.map_nil]; rfl) BN.out) hH ?_
      change wpAnyH _ _ _ _ _ _ _ (Act.put _ (some 65) _) _
      simp only [Act.put, s0, s1, s2]
      refine wpAnyH_ready (rs := [18]) (by kernel_rfl) (by simp) (AllReadyH.cons rfl (fun K1 hK1 => ?_) AllReadyH.nil)
      refine stepStoreA ANn (by rfl) _ _ (by rfl) g15 NN.cells.toArray NZ.out.1 NZ.out.2 (by rfl) (by rfl) zTno.cells.toArray zTno.size _ RV2a.out ?_
      have DE := hide (below_setRow DV2a.out G15.out NN.cells.toArray)
      have RE := hide (setRow_heap _ _ _ NN.cells.toArray _ _ RV2a.out)
      refine hK1.out _ _ DE.out (fun hH => ?_)
      clear hK1
      change wpAnyH _ _ _ _ _ _ _ (Act.put _ none _) _
      simp only [Act.put]
      refine wpAnyH_done (by kernel_rfl) ?_ _
      go_wp2_with fail
      go_meet
      exact ⟨g15, rfl, DE.out, G15.out, RE.out⟩
  obtain ⟨g15, rfl, J15⟩ := hcut
  generalize wc = wy at *
  have X8 := hide (X7.out.next J15.out.1)
  have F8 := hide ((F7.out.next J15.out.1).trans' (Frt.setCell (S := SS) wy (p := ⟨ge, k * 114 + 112, none⟩) SF.out.2.2 (.int .i64 (L.length : Int))))
  clear F7
  have R3e := hide ((J15.out.1.block _ (lt_heap R3d.out)).trans R3d.out)
  have R15 := hide J15.out.2.2
  have G15 := hide J15.out.2.1
  have SZ := hide (Nat.lt_of_lt_of_le (lt_heap R3d.out) (Nat.le_refl _))
  have NE : Hid (g15 ≠ gt ∧ g15 ≠ gm ∧ g15 ≠ ge ∧ w.heap.size ≠ gt ∧ w.heap.size ≠ gm ∧ w.heap.size ≠ ge) := by
    have h1 := lt_heap H0.out.row
    have h2 := H0.out.map.lt
    have h3 := H0.out.own.lt ge rfl
    have h4 := G15.out
    have h5 := SZ.out
    exact ⟨by omega, by omega, by omega, by omega, by omega, by omega⟩
  clear J15 R3d R4d R12 X7 SZ HSk HAn BP BN
  have c112 := (LH.out _ X8.out).2.2
  have f112 := OX.fz X8.out.own (k * 114 + 112)
  go_upto_region 7 with fail
  clear c112 f112
  have Y8 := hide (SY.out _ X8.out)
  have R3f := hide ((Below.heap_setCell wy ⟨ge, k * 114 + 112, none⟩ (.int .i64 (L.length : Int)) w.heap.size NE.out.2.2.2.2.2).trans R3e.out)
  have R15f := hide ((Below.heap_setCell wy ⟨ge, k * 114 + 112, none⟩ (.int .i64 (L.length : Int)) g15 NE.out.2.2.1).trans R15.out)
  clear X8 R3e R15 LH SY
  generalize wy.setCell ⟨ge, k * 114 + 112, none⟩ (.int .i64 (L.length : Int)) = W8 at *
  have Y9 := hide (Y8.out.next (Below.refl W8.heap.size W8).drew)
  have F9 := hide (F8.out.next (Below.refl W8.heap.size W8).drew)
  clear F8
  have R3g := hide (show W8.drew.heap[w.heap.size]? = _ from R3f.out)
  have R15g := hide (show W8.drew.heap[g15]? = _ from R15f.out)
  clear Y8 R3f R15f
  refine wp_region_held_drew (S := fun W => W.cell? ⟨gt, 0, none⟩ = some (.map (some gm)) ∧ W.heap[w.heap.size]? = some (.cells C 46 (0, 0))) (by kernel_rfl) ⟨Y9.out.cells.1, R3g.out⟩ (fun hH => ?_)
  generalize W8.drew = V9 at *
  refine wt (i := 0) (v := (.pointer (some ⟨gt, 0, none⟩))) rfl (yl_move (by rfl) _ (by rfl) _ (by rfl)) hH ?_
  change wpAnyH _ _ _ _ _ _ _ (Act.put _ (some 70) _) _
  simp only [Act.put, s0, s1, s2]
  refine wt (i := 1) (v := (.pointer (some ⟨gt, 0, none⟩))) rfl (.inl ⟨by rfl, fun W _ => by go_simp⟩) hH ?_
  change wpAnyH _ _ _ _ _ _ _ (Act.put _ (some 71) _) _
  simp only [Act.put, s0, s1, s2]
  refine wt (i := 2) (v := (.pointer (some ⟨gt, 0, none⟩))) rfl (.inl ⟨by rfl, fun W _ => by go_simp⟩) hH ?_
  change wpAnyH _ _ _ _ _ _ _ (Act.put _ (some 72) _) _
  simp only [Act.put, s0, s1, s2]
  refine wt (i := 3) (v := (.map (some gm))) rfl (.inl ⟨by rfl, fun W hS => by have c4 := hS.1; go_simp⟩) hH ?_
  change wpAnyH _ _ _ _ _ _ _ (Act.put _ (some 73) _) _
  simp only [Act.put, s0, s1, s2]
  refine wt (i := 4) (v := (.agg C)) rfl (yl_load (by rfl) _ (by rfl) _ C (by rfl) (fun W hS => ld_row A25 CZ.out.1 hS.2)) hH ?_
  change wpAnyH _ _ _ _ _ _ _ (Act.put _ (some 74) _) _
  simp only [Act.put, s0, s1, s2]
  refine wt (i := 5) (v := (.int .i64 (L.length : Int))) rfl (yl_move (by rfl) _ (by rfl) _ (by rfl)) hH ?_
  change wpAnyH _ _ _ _ _ _ _ (Act.put _ (some 75) _) _
  simp only [Act.put, s0, s1, s2]
  obtain ⟨VA, hrun, ya, ga⟩ := LP.out V9 _ _ Y9.out
  have YA := hide ya
  have FA := hide (F9.out.trans' (Frt.of_grown ga (by intro g e; cases e; exact SF.out.2.1)))
  clear F9
  have R3h := hide ((ga.block _ (lt_heap R3g.out) (by intro e; cases e; exact NE.out.2.2.2.2.1 rfl)).trans R3g.out)
  have R15h := hide ((ga.block _ (lt_heap R15g.out) (by intro e; cases e; exact NE.out.2.1 rfl)).trans R15g.out)
  refine wpAnyH_ready (rs := [6]) (by kernel_rfl) (by simp) (AllReadyH.cons rfl (fun K1 hK1 => ?_) AllReadyH.nil)
  refine step_skip14 (by rfl) (ex_mapU14 _ _ _ _ (by rfl) _ _ _ (by rfl) (by rfl) (by rfl) hrun) ?_
  refine hK1.out _ _ ⟨YA.out.cells.1, R3h.out⟩ (fun hH => ?_)
  clear hK1 hrun ya ga
  change wpAnyH _ _ _ _ _ _ _ (Act.put _ none _) _
  simp only [Act.put]
  refine wpAnyH_done (by kernel_rfl) ?_ _
  clear hH Y9 R3g R15g R3h LP
  go_upto_region 8 with fail
  have YB := hide (YA.out.next (Below.refl VA.heap.size VA).drew)
  have FB := hide (FA.out.next (Below.refl VA.heap.size VA).drew)
  clear FA
  have R15i := hide (show VA.drew.heap[g15]? = _ from R15h.out)
  clear YA R15h
  refine wp_region_held_drew (S := fun W => W.heap[g15]? = some (.cells NN.cells.toArray 120 (0, 0))) (by kernel_rfl) R15i.out (fun hH => ?_)
  generalize VA.drew = VB at *
  refine wt (i := 0) (v := (.pointer (some ⟨gt, 0, none⟩))) rfl (yl_move (by rfl) _ (by rfl) _ (by rfl)) hH ?_
  change wpAnyH _ _ _ _ _ _ _ (Act.put _ (some 76) _) _
  simp only [Act.put, s0, s1, s2]
  refine wt (i := 1) (v := (.pointer (some ⟨gt, 0, none⟩))) rfl (yl_move (by rfl) _ (by rfl) _ (by rfl)) hH ?_
  change wpAnyH _ _ _ _ _ _ _ (Act.put _ (some 77) _) _
  simp only [Act.put, s0, s1, s2]
  refine wt (i := 2) (v := (.pointer (some ⟨gt, 0, none⟩))) rfl (.inl ⟨by rfl, fun W _ => by go_simp⟩) hH ?_
  change wpAnyH _ _ _ _ _ _ _ (Act.put _ (some 78) _) _
  simp only [Act.put, s0, s1, s2]
  refine wt (i := 3) (v := (.pointer (some ⟨gt, 1, none⟩))) rfl (.inl ⟨by rfl, fun W _ => by go_simp⟩) hH ?_
  change wpAnyH _ _ _ _ _ _ _ (Act.put _ (some 79) _) _
  simp only [Act.put, s0, s1, s2]
  refine wt (i := 5) (v := (.agg NN.cells.toArray)) rfl (yl_load (by rfl) _ (by rfl) _ NN.cells.toArray (by rfl) (fun W hS => ld_row ANn NZ.out.1 hS)) hH ?_
  change wpAnyH _ _ _ _ _ _ _ (Act.put _ (some 81) _) _
  simp only [Act.put, s0, s1, s2]
  refine wpAnyH_ready (rs := [4, 6]) (by kernel_rfl) (by simp) (AllReadyH.cons rfl (fun K1 hK1 => ?_) (AllReadyH.cons rfl (fun K1 hK1 => ?_) AllReadyH.nil))
  · have c1 := YB.out.cells.2.1
    go_simp
    refine hK1.out _ _ R15i.out (fun hH => ?_)
    clear hK1 c1
    refine wpAnyH_ready (rs := [6]) (by kernel_rfl) (by simp) (AllReadyH.cons rfl (fun K1 hK1 => ?_) AllReadyH.nil)
    refine Ek.stepBs1 KNo (by rfl) _ (by rfl) NN (by rw [ENN.out]; rfl) ?_
    have ba := (Below.refl VB.heap.size VB).alloc (Nat.le_refl _) (.cells (KNo.enc NN).toArray KNo.e)
    have YC := hide (YB.out.next ba)
    have FC := hide (FB.out.next ba)
    have R15j := hide ((ba.block _ (lt_heap R15i.out)).trans R15i.out)
    have N6 := hide (one_newX (E := KNo) VB NN)
    refine hK1.out _ _ R15j.out (fun hH => ?_)
    clear hK1 ba
    change wpAnyH _ _ _ _ _ _ _ (Act.put _ (some 82) _) _
    simp only [Act.put, s0, s1, s2]
    generalize VB.alloc (.cells (KNo.enc NN).toArray KNo.e) = VC at *
    generalize VB.heap.size = g82 at *
    refine wpAnyH_ready (rs := [7]) (by kernel_rfl) (by simp) (AllReadyH.cons rfl (fun K1 hK1 => ?_) AllReadyH.nil)
    refine Ek.stepApp KNo (by rfl) _ _ (by rfl) (.slice (some ⟨ge, 0, none⟩) L.length cap) LY (by rfl) YC.out.own ⟨g82, 0, none⟩ NN (by rfl) N6.out (by have := HN.out; have := LL.out; show (LY.length + 1) * 208 ≤ _; omega) (by have := HN.out; have := LL.out; unfold maxLen; omega) ?_
    intro v' VD ho hon
    have YD := hide (YC.out.setL hon ho)
    have FD := hide ((FC.out.trans' (Frt.of_grown hon.grown (by intro g e; cases e; exact SF.out.2.2))).trans' (Frt.setCell (S := SS) VD (p := ⟨gt, 1, none⟩) SF.out.1 v'))
    have OW : Hid (∀ g, v'.ownBlock = some g → (Value.slice (some ⟨ge, 0, none⟩) L.length cap).ownBlock = some g ∨ w.heap.size ≤ g) := fun g hg => by
      rcases hon.lies with e | ⟨c, e, hc⟩
      · exact .inl (by rw [← e]; exact hg)
      · rw [e] at hg
        cases hg
        exact .inr (Nat.le_trans FC.out.size hc)
    have R15k := hide ((hon.grown.block _ (lt_heap R15j.out) (by intro e; cases e; exact NE.out.2.2.1 rfl)).trans R15j.out)
    obtain ⟨ao', cap', rfl⟩ := ho.form
    clear ho hon
    generalize (LY ++ [NN]).length = NL at *
    refine hK1.out _ _ R15k.out (fun hH => ?_)
    clear hK1
    change wpAnyH _ _ _ _ _ _ _ (Act.put _ (some 83) _) _
    simp only [Act.put, s0, s1, s2]
    refine wt (i := 8) (v := (.pointer (some ⟨gt, 0, none⟩))) rfl (.inl ⟨by rfl, fun W _ => by go_simp⟩) hH ?_
    change wpAnyH _ _ _ _ _ _ _ (Act.put _ (some 84) _) _
    simp only [Act.put, s0, s1, s2]
    refine wt (i := 9) (v := (.pointer (some ⟨gt, 1, none⟩))) rfl (.inl ⟨by rfl, fun W _ => by go_simp⟩) hH ?_
    change wpAnyH _ _ _ _ _ _ _ (Act.put _ (some 85) _) _
    simp only [Act.put, s0, s1, s2]
    have c1 : VD.cell? ⟨gt, 1, none⟩ = some (.slice (some ⟨ge, 0, none⟩) L.length cap) := by rw [cell_of_row _ _ _ _ _ _ YD.out.1]; rfl
    have f1 := frozen_of_row VD gt 1 _ _ YD.out.1
    have R15l := hide ((Below.heap_setCell VD ⟨gt, 1, none⟩ (.slice ao' NL cap') _ NE.out.1).trans R15k.out)
    refine wpAnyH_ready (rs := [10]) (by kernel_rfl) (by simp) (AllReadyH.cons rfl (fun K1 hK1 => ?_) AllReadyH.nil)
    go_simp
    refine hK1.out _ _ ?_ (fun hH => ?_)
    · exact R15l.out
    clear hK1 c1 f1
    refine wpAnyH_done (by kernel_rfl) ?_ _
    clear hH
    have YE := hide YD.out.2
    generalize VD.setCell ⟨gt, 1, none⟩ (.slice ao' NL cap') = VE at *
    go_wp2_with (go_at_call 70; refine (HGw.out _ _ YE.out).mono ?_; rintro e W9 ⟨rfl, y9, f9⟩; have YF := hide y9; have FF := hide (FD.out.trans' (f9.mono (by intro g e; rw [e]; exact SF.out.1))); clear y9 f9)
    exact bodyPost_end (results_none (by kernel_rfl) _ _ _) rfl ⟨rfl, _, YF.out, FF.out, OW.out⟩
  · refine Ek.stepBs1 KNo (by rfl) _ (by rfl) NN (by rw [ENN.out]; rfl) ?_
    have ba := (Below.refl VB.heap.size VB).alloc (Nat.le_refl _) (.cells (KNo.enc NN).toArray KNo.e)
    have YC := hide (YB.out.next ba)
    have FC := hide (FB.out.next ba)
    have R15j := hide ((ba.block _ (lt_heap R15i.out)).trans R15i.out)
    have N6 := hide (one_newX (E := KNo) VB NN)
    refine hK1.out _ _ R15j.out (fun hH => ?_)
    clear hK1 ba
    change wpAnyH _ _ _ _ _ _ _ (Act.put _ (some 82) _) _
    simp only [Act.put, s0, s1, s2]
    generalize VB.alloc (.cells (KNo.enc NN).toArray KNo.e) = VC at *
    generalize VB.heap.size = g82 at *
    refine wpAnyH_ready (rs := [4]) (by kernel_rfl) (by simp) (AllReadyH.cons rfl (fun K1 hK1 => ?_) AllReadyH.nil)
    have c1 := YC.out.cells.2.1
    go_simp
    refine hK1.out _ _ R15j.out (fun hH => ?_)
    clear hK1 c1
    refine wpAnyH_ready (rs := [7]) (by kernel_rfl) (by simp) (AllReadyH.cons rfl (fun K1 hK1 => ?_) AllReadyH.nil)
    refine Ek.stepApp KNo (by rfl) _ _ (by rfl) (.slice (some ⟨ge, 0, none⟩) L.length cap) LY (by rfl) YC.out.own ⟨g82, 0, none⟩ NN (by rfl) N6.out (by have := HN.out; have := LL.out; show (LY.length + 1) * 208 ≤ _; omega) (by have := HN.out; have := LL.out; unfold maxLen; omega) ?_
    intro v' VD ho hon
    have YD := hide (YC.out.setL hon ho)
    have FD := hide ((FC.out.trans' (Frt.of_grown hon.grown (by intro g e; cases e; exact SF.out.2.2))).trans' (Frt.setCell (S := SS) VD (p := ⟨gt, 1, none⟩) SF.out.1 v'))
    have OW : Hid (∀ g, v'.ownBlock = some g → (Value.slice (some ⟨ge, 0, none⟩) L.length cap).ownBlock = some g ∨ w.heap.size ≤ g) := fun g hg => by
      rcases hon.lies with e | ⟨c, e, hc⟩
      · exact .inl (by rw [← e]; exact hg)
      · rw [e] at hg
        cases hg
        exact .inr (Nat.le_trans FC.out.size hc)
    have R15k := hide ((hon.grown.block _ (lt_heap R15j.out) (by intro e; cases e; exact NE.out.2.2.1 rfl)).trans R15j.out)
    obtain ⟨ao', cap', rfl⟩ := ho.form
    clear ho hon
    generalize (LY ++ [NN]).length = NL at *
    refine hK1.out _ _ R15k.out (fun hH => ?_)
    clear hK1
    change wpAnyH _ _ _ _ _ _ _ (Act.put _ (some 83) _) _
    simp only [Act.put, s0, s1, s2]
    refine wt (i := 8) (v := (.pointer (some ⟨gt, 0, none⟩))) rfl (.inl ⟨by rfl, fun W _ => by go_simp⟩) hH ?_
    change wpAnyH _ _ _ _ _ _ _ (Act.put _ (some 84) _) _
    simp only [Act.put, s0, s1, s2]
    refine wt (i := 9) (v := (.pointer (some ⟨gt, 1, none⟩))) rfl (.inl ⟨by rfl, fun W _ => by go_simp⟩) hH ?_
    change wpAnyH _ _ _ _ _ _ _ (Act.put _ (some 85) _) _
    simp only [Act.put, s0, s1, s2]
    have c1 : VD.cell? ⟨gt, 1, none⟩ = some (.slice (some ⟨ge, 0, none⟩) L.length cap) := by rw [cell_of_row _ _ _ _ _ _ YD.out.1]; rfl
    have f1 := frozen_of_row VD gt 1 _ _ YD.out.1
    have R15l := hide ((Below.heap_setCell VD ⟨gt, 1, none⟩ (.slice ao' NL cap') _ NE.out.1).trans R15k.out)
    refine wpAnyH_ready (rs := [10]) (by kernel_rfl) (by simp) (AllReadyH.cons rfl (fun K1 hK1 => ?_) AllReadyH.nil)
    go_simp
    refine hK1.out _ _ ?_ (fun hH => ?_)
    · exact R15l.out
    clear hK1 c1 f1
    refine wpAnyH_done (by kernel_rfl) ?_ _
    clear hH
    have YE := hide YD.out.2
    generalize VD.setCell ⟨gt, 1, none⟩ (.slice ao' NL cap') = VE at *
    go_wp2_with (go_at_call 70; refine (HGw.out _ _ YE.out).mono ?_; rintro e W9 ⟨rfl, y9, f9⟩; have YF := hide y9; have FF := hide (FD.out.trans' (f9.mono (by intro g e; rw [e]; exact SF.out.1))); clear y9 f9)
    exact bodyPost_end (results_none (by kernel_rfl) _ _ _) rfl ⟨rfl, _, YF.out, FF.out, OW.out⟩
end
end Go.Proofs.YtcoojkpimbddlaaGreatDoor
