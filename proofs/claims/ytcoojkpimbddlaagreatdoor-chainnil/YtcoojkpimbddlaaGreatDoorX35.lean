/- A draft: its cells; add of a coinbase of one output: its contract. Amounts: plus and below: their contracts. -/
import Derived.Test.YtcoojkpimbddlaaGreatDoorP0
import Derived.Test.YtcoojkpimbddlaaGreatDoorX34
import Derived.Test.YtcoojkpimbddlaaGreatDoorX20
import Derived.Test.YtcoojkpimbddlaaGreatDoorX09
namespace Go.Proofs.YtcoojkpimbddlaaGreatDoor
open Go.RowKit
open Go.Deep
open Go.Maps
set_option linter.unusedVariables false
set_option linter.unusedSimpArgs false
structure Chg where
  coin : Cn
  is : Bool
def Chg.cells (c : Chg) : List Value := c.coin.cells ++ [.bool c.is]
def Chg.dat (c : Chg) : DataW Unit := .agg [.lit (.int .u64 (c.coin.val.toNat : Int)), .lit (.string c.coin.lock.data.toList), .lit (.int .i64 c.coin.ht), .lit (.bool c.coin.cb), .lit (.bool c.is)]
def chE : Value → Option (DataW Unit × List MemPlace)
  | .agg ⟨[.int .u64 a, .string s, .int .i64 h, .bool b, .bool i]⟩ => some (.agg [.lit (.int .u64 a), .lit (.string s.data.toList), .lit (.int .i64 h), .lit (.bool b), .lit (.bool i)], [])
  | _ => none
theorem chE_mk (c : Chg) : chE (.agg c.cells.toArray) = some (c.dat, []) := rfl
theorem chE_inv {v : Value} {z : DataW Unit × List MemPlace} (h : chE v = some z) : ∃ (a : Int) (s : ByteArray) (hh : Int) (b i : Bool), v = .agg #[.int .u64 a, .string s, .int .i64 hh, .bool b, .bool i] ∧ z = (.agg [.lit (.int .u64 a), .lit (.string s.data.toList), .lit (.int .i64 hh), .lit (.bool b), .lit (.bool i)], []) := by
  unfold chE at h
  split at h
  · exact ⟨_, _, _, _, _, rfl, (Option.some.inj h).symm⟩
  · cases h
theorem chE_eq {v : Value} {c : Chg} {ps : List MemPlace} (h : chE v = some (c.dat, ps)) : v = .agg c.cells.toArray := by
  obtain ⟨a, s, hh, b, i, rfl, e⟩ := chE_inv h
  have e1 := congrArg Prod.fst e
  simp only [Chg.dat, DataW.agg.injEq, List.cons.injEq, DataW.lit.injEq, Lit.int.injEq, Lit.string.injEq, Lit.bool.injEq, and_true, true_and] at e1
  obtain ⟨q1, q2, q3, q4, q5⟩ := e1
  obtain rfl := ba_inj q2
  rw [Chg.cells, Cn.cells, q1, q3, q4, q5]
  rfl
theorem Chg.all (c : Chg) : c.cells.toArray.all (·.oneCell') = true := all_of_one (by
  intro v hv
  simp only [Chg.cells, Cn.cells, List.cons_append, List.nil_append, List.mem_cons, List.not_mem_nil, or_false] at hv
  rcases hv with rfl | rfl | rfl | rfl | rfl <;> rfl)
def drA (gc : Nat) (h : Int) (tm : UInt32) (ga gb : Nat) : Array Value := #[.pointer (some ⟨gc, 0, none⟩), .int .i64 h, .int .u32 (tm.toNat : Int), .map (some ga), .map (some gb), .slice none 0 0, .int .u64 0, .int .u64 0]
structure Dst (B W : World) (gd gc : Nat) (h : Int) (tm : UInt32) (ga gb n m : Nat) (D E : DataW Unit) : Prop where
  row : W.heap[gd]? = some (.cells (drA gc h tm ga gb) 200 (0, 0))
  mp : W.ownsMap Tryz.prog 160 chE ga n D
  ct : OmI W gb m E
  bel : Below B.heap.size B W
  bg : B.heap.size ≤ gd
  b1 : B.heap.size ≤ ga
  b2 : B.heap.size ≤ gb
  n1 : gd ≠ ga
  n2 : gd ≠ gb
  n3 : ga ≠ gb
section
variable {A B W W' : World} {gd gc ga gb n m n' : Nat} {h : Int} {tm : UInt32} {D E D' : DataW Unit}
theorem Dst.next (c : Dst B W gd gc h tm ga gb n m D E) (b : Below W.heap.size W W') : Dst B W' gd gc h tm ga gb n m D E :=
  ⟨(b.block _ (lt_heap c.row)).trans c.row, own_block c.mp (b.block _ c.mp.lt), c.ct.of_block (b.block _ c.ct.lt), below_next c.bel b, c.bg, c.b1, c.b2, c.n1, c.n2, c.n3⟩
theorem Dst.setM (c : Dst B W gd gc h tm ga gb n m D E) (o : W'.ownsMap Tryz.prog 160 chE ga n' D') (g : W.grownBy W' (some ga)) : Dst B W' gd gc h tm ga gb n' m D' E :=
  ⟨(g.block _ (lt_heap c.row) (by intro e; exact c.n1 (Option.some.inj e))).trans c.row, o, c.ct.of_block (g.block _ c.ct.lt (by intro e; exact c.n3 (Option.some.inj e).symm)), below_grownP c.bel g c.b1, c.bg, c.b1, c.b2, c.n1, c.n2, c.n3⟩
theorem Dst.setC (c : Dst B W gd gc h tm ga gb n m D E) (o : OmI W' gb n' D') (g : W.grownBy W' (some gb)) : Dst B W' gd gc h tm ga gb n n' D D' :=
  ⟨(g.block _ (lt_heap c.row) (by intro e; exact c.n2 (Option.some.inj e))).trans c.row, own_block c.mp (g.block _ c.mp.lt (by intro e; exact c.n3 (Option.some.inj e))), o, below_grownP c.bel g c.b2, c.bg, c.b1, c.b2, c.n1, c.n2, c.n3⟩
theorem Dst.cells (c : Dst B W gd gc h tm ga gb n m D E) : W.cell? ⟨gd, 0, none⟩ = some (.pointer (some ⟨gc, 0, none⟩)) ∧ W.cell? ⟨gd, 1, none⟩ = some (.int .i64 h) ∧ W.cell? ⟨gd, 2, none⟩ = some (.int .u32 (tm.toNat : Int)) ∧ W.cell? ⟨gd, 3, none⟩ = some (.map (some ga)) ∧ W.cell? ⟨gd, 4, none⟩ = some (.map (some gb)) ∧ W.cell? ⟨gd, 5, none⟩ = some (.slice none 0 0) ∧ W.cell? ⟨gd, 6, none⟩ = some (.int .u64 0) ∧ W.cell? ⟨gd, 7, none⟩ = some (.int .u64 0) := by
  refine ⟨?_, ?_, ?_, ?_, ?_, ?_, ?_, ?_⟩ <;> rw [cell_of_row _ _ _ _ _ _ c.row] <;> rfl
end
theorem look0 {W : World} {b n : Nat} {D : DataW Unit} (h : OmI W b n D) (l : List UInt8) (hl : l.length = 32) (k : Int) (hat : D.atKey (.string l) (.lit (.int .i64 0)) = .lit (.int .i64 k)) : (Instr.lookup 118 (.map (some b)) (.agg (hc l)) false).run Tryz.prog W = .ok (.int .i64 k) W := by
  obtain ⟨c, hrun, hc', _⟩ := h.lookup_int lawH14 Tryz.underlying118 Tryz.underlying3 (zeroI14 W) (keyH14 l hl)
  rw [hat] at hc'
  obtain rfl : k = c := by simpa using hc'
  exact hrun
section
set_option maxRecDepth 10000
set_option maxHeartbeats 4000000
theorem add_base {A B w : World} {gc bm bc nc mc gd ga gb n m : Nat} {tip : List UInt8} {hh h : Int} {tm : UInt32} {DC EC D E : DataW Unit} (cs : Cst A B gc bm bc nc mc tip hh DC EC) (d : Dst B w gd gc h tm ga gb n m D E) (hn : n < 1000000) (hm : m < 1000000) (x : Tq) (hx0 : x.can B) (hK : Kg w) (o : Tu) (ho : x.m.outs = [o]) (hb : x.m.base = true) (hf : finB x.m h (tm.toNat : Int) = true) (ht : x.m.toldE = 0) (hl : x.m.idT.length = 32)
    (e1 : EC.atKey (.string x.m.idT) (.lit (.int .i64 0)) = .lit (.int .i64 0)) (e2 : E.atKey (.string x.m.idT) (.lit (.int .i64 0)) = .lit (.int .i64 0)) :
    Calls Tryz.prog 164 #[.pointer (some ⟨gd, 0, none⟩), .agg x.arr] w fun e w' => e = .returned (.int .i64 0) ∧ Dst B w' gd gc h tm ga gb (n + 1) (m + 1) (D.put (.string (⟨x.m.idT, 0, hl⟩ : Tp).keyB) (⟨⟨o.val, o.lock, h, true⟩, true⟩ : Chg).dat) (E.put (.string x.m.idT) (.lit (.int .i64 1))) := by
  have hx : x.can w := hx0.below d.bel
  have b1 := (Below.refl w.heap.size w).alloc (Nat.le_refl _) (.cells x.arr 152)
  have R1 := hide (heap_alloc_last w (.cells x.arr 152))
  have D1 := hide (d.next b1)
  have XC := hide (fun W (b : Below (w.alloc (.cells x.arr 152)).heap.size (w.alloc (.cells x.arr 152)) W) => And.intro (hx.below (below_next b1 b)) (hK.next (below_next b1 b)))
  have LW := hide (show gd < w.heap.size ∧ ga < w.heap.size ∧ gb < w.heap.size from ⟨lt_heap d.row, d.mp.lt, d.ct.lt⟩)
  have XZ : Hid (x.arr.size = 4) := rfl
  have HF : Hid (∀ W, x.can W → Calls Tryz.prog 226 #[.agg x.arr, .int .i64 h, .int .u32 (tm.toNat : Int)] W fun e w' => e = .returned (.bool true) ∧ Below W.heap.size W w') := fun W c => by
    have := final_any x.m x.ai x.ci x.ao x.co W c.1 c.2 h tm
    rw [hf] at this
    exact this
  have HI : Hid (∀ W, x.can W → Kg W → Calls Tryz.prog 88 #[.agg x.arr] W fun e w' => e = .returned (.tuple #[.agg (hc x.m.idT), .int .i64 0]) ∧ Below W.heap.size W w') := fun W c q => by
    have := id_any x.m x.ai x.ci x.ao x.co W q c.1 c.2
    rw [ht] at this
    exact this
  have HB : Hid (∀ W, x.can W → Calls Tryz.prog 150 #[.agg x.arr] W fun e w' => e = .returned (.bool true) ∧ Below W.heap.size W w') := fun W c => by
    have := base_any x.m x.ai x.ci x.ao x.co W c.1 c.2
    rw [hb] at this
    exact this
  have LO1 : ∀ W, x.can W → LX KO W (.slice x.ao 1 x.co) [o] := fun W c => by
    have := c.1.o
    rw [ho] at this
    exact this
  obtain ⟨go, oo, hao⟩ := (LO1 w hx).base (by simp)
  have LO2 : Hid (∀ W, Below B.heap.size B W → W.rangeAt go (oo + 0 * 2) o.cells) := fun W c => by
    have := LO1 W (hx0.below c)
    rw [hao] at this
    exact this.range 0 (by simp)
  have C2F : Hid (∀ W : World, W.heap[w.heap.size]? = some (.cells x.arr 152 (0, 0)) → W.cell? ⟨w.heap.size, 2, none⟩ = some (.slice (some ⟨go, oo, none⟩) 1 x.co)) := fun W e => by
    rw [cell_of_row _ _ _ _ _ _ e, ← hao]
    show some (Value.slice x.ao x.m.outs.length x.co) = _
    rw [ho]
    rfl
  have HP : Hid (∀ W, x.can W → Calls Tryz.prog 89 #[.agg (hc x.m.idT), .agg x.arr] W fun e w' => ∃ bi di, e = .returned (.slice bi 1 di) ∧ LX KPt w' (.slice bi 1 di) [⟨x.m.idT, 0, hl⟩] ∧ Below W.heap.size W w') := fun W c => by
    have := pairs_any ⟨x.m.idT, hl⟩ x.m x.ai x.ci x.ao x.co W c.1 c.2
    rw [ho] at this
    exact this
  clear b1 hx hx0 hK hf ht hb LO1 hao
  generalize hXA : x.arr = XA at *
  go_enter Tryz.func164, Tryz.ntmps164
  go_upto_region 1 with ((with_reducible refine at_list ?_); refine wpList_boxA rfl _ rfl XA rfl ?_)
  generalize w.alloc (.cells XA 152) = W0 at *
  have DV := hide (Below.refl W0.heap.size W0).drew
  refine wp_region_held_drew (S := fun W => Below W0.heap.size W0 W) (by kernel_rfl) DV.out (fun hH => ?_)
  generalize W0.drew = V1 at *
  have RX : Hid (∀ W, Below W0.heap.size W0 W → W.heap[w.heap.size]? = some (.cells XA 152 (0, 0))) := fun W b => (b.block _ (lt_heap R1.out)).trans R1.out
  refine wt (i := 0) (v := (.agg XA)) rfl (yl_load (by rfl) _ (by rfl) _ XA (by rfl) (fun W hS => ld_row AT XZ.out (RX.out W hS))) hH ?_
  change wpAnyH _ _ _ _ _ _ _ (Act.put _ (some 11) _) _
  simp only [Act.put, s0, s1, s2]
  refine wt (i := 1) (v := (.pointer (some ⟨gd, 0, none⟩))) rfl (yl_move (by rfl) _ (by rfl) _ (by rfl)) hH ?_
  change wpAnyH _ _ _ _ _ _ _ (Act.put _ (some 12) _) _
  simp only [Act.put, s0, s1, s2]
  refine wt (i := 2) (v := (.pointer (some ⟨gd, 0, none⟩))) rfl (.inl ⟨by rfl, fun W _ => by go_simp⟩) hH ?_
  change wpAnyH _ _ _ _ _ _ _ (Act.put _ (some 13) _) _
  simp only [Act.put, s0, s1, s2]
  refine wt (i := 3) (v := (.pointer (some ⟨gd, 1, none⟩))) rfl (.inl ⟨by rfl, fun W _ => by go_simp⟩) hH ?_
  change wpAnyH _ _ _ _ _ _ _ (Act.put _ (some 14) _) _
  simp only [Act.put, s0, s1, s2]
  refine wt (i := 4) (v := (.int .i64 h)) rfl (.inl ⟨by rfl, fun W hS => by have c4 := (D1.out.next hS).cells.2.1; go_simp⟩) hH ?_
  change wpAnyH _ _ _ _ _ _ _ (Act.put _ (some 15) _) _
  simp only [Act.put, s0, s1, s2]
  refine wt (i := 5) (v := (.pointer (some ⟨gd, 0, none⟩))) rfl (yl_move (by rfl) _ (by rfl) _ (by rfl)) hH ?_
  change wpAnyH _ _ _ _ _ _ _ (Act.put _ (some 16) _) _
  simp only [Act.put, s0, s1, s2]
  refine wt (i := 6) (v := (.pointer (some ⟨gd, 0, none⟩))) rfl (.inl ⟨by rfl, fun W _ => by go_simp⟩) hH ?_
  change wpAnyH _ _ _ _ _ _ _ (Act.put _ (some 17) _) _
  simp only [Act.put, s0, s1, s2]
  refine wt (i := 7) (v := (.pointer (some ⟨gd, 2, none⟩))) rfl (.inl ⟨by rfl, fun W _ => by go_simp⟩) hH ?_
  change wpAnyH _ _ _ _ _ _ _ (Act.put _ (some 18) _) _
  simp only [Act.put, s0, s1, s2]
  refine wt (i := 8) (v := (.int .u32 (tm.toNat : Int))) rfl (.inl ⟨by rfl, fun W hS => by have c4 := (D1.out.next hS).cells.2.2.1; go_simp⟩) hH ?_
  change wpAnyH _ _ _ _ _ _ _ (Act.put _ (some 19) _) _
  simp only [Act.put, s0, s1, s2]
  refine wpAnyH_ready (rs := [9]) (by kernel_rfl) (by simp) (AllReadyH.cons rfl (fun K1 hK1 => ?_) AllReadyH.nil)
  go_simp
  refine (HF.out V1 (XC.out _ DV.out).1).mono ?_
  rintro r V2 ⟨rfl, be⟩
  have B2 := hide (below_next DV.out be)
  clear be DV HF
  refine hK1.out _ _ B2.out (fun hH => ?_)
  clear hK1
  refine wt (i := 10) (v := (.bool false)) rfl (.inl ⟨by rfl, fun W _ => by go_simp⟩) hH ?_
  change wpAnyH _ _ _ _ _ _ _ (Act.put _ (some 21) _) _
  simp only [Act.put, s0, s1, s2]
  refine wpAnyH_done (by kernel_rfl) ?_ _
  clear hH
  go_upto_region 4 with (first | (go_at_call 88; refine (HI.out _ (XC.out _ B2.out).1 (XC.out _ B2.out).2).mono ?_; rintro e W3 ⟨rfl, be⟩; have B3 := hide (below_next B2.out be); clear be) | ((with_reducible refine at_list ?_); first | refine wpList_loadS AT _ rfl w.heap.size rfl XA XZ.out 152 (RX.out _ B2.out) (by rfl) ?_ | refine wpList_allocA A25 rfl rfl ?_ | refine wpList_store_newA A25 rfl _ _ rfl _ rfl (hc x.m.idT) (by rw [hc_size, hl]) (hc_one _) rfl rfl ?_))
  have B4 := hide (below_next B3.out ((Below.refl W3.heap.size W3).alloc (Nat.le_refl _) (.cells (hc x.m.idT) 46)))
  have R4 := hide (heap_alloc_last W3 (.cells (hc x.m.idT) 46))
  have IZ := hide (And.intro (show (hc x.m.idT).size = 32 by rw [hc_size, hl]) (hc_one x.m.idT))
  have G5 := hide (show W0.heap.size ≤ W3.heap.size from B3.out.size)
  have GL : Hid (gd < W3.heap.size ∧ ga < W3.heap.size ∧ gb < W3.heap.size ∧ w.heap.size < W3.heap.size) := by
    have q1 := G5.out
    have q2 := LW.out
    have q3 := lt_heap R1.out
    exact ⟨by omega, by omega, by omega, by omega⟩
  clear B2 B3 HI
  generalize W3.alloc (.cells (hc x.m.idT) 46) = W4 at *
  generalize W3.heap.size = g5 at *
  have DV4 := hide (Below.refl W4.heap.size W4).drew
  refine wp_region_held_drew (S := fun W => Below W4.heap.size W4 W) (by kernel_rfl) DV4.out (fun hH => ?_)
  have RI : Hid (∀ W, Below W4.heap.size W4 W → W.heap[g5]? = some (.cells (hc x.m.idT) 46 (0, 0))) := fun W b => (b.block _ (lt_heap R4.out)).trans R4.out
  have DD := hide (fun W (b : Below W4.heap.size W4 W) => D1.out.next (below_next B4.out b))
  have CS := hide (fun W (b : Below W4.heap.size W4 W) => cs.next (DD.out W b).bel)
  have RX4 := hide (fun W (b : Below W4.heap.size W4 W) => RX.out W (below_next B4.out b))
  have XC4 := hide (fun W (b : Below W4.heap.size W4 W) => XC.out W (below_next B4.out b))
  have TL := hide cs.ht
  clear R4 D1 RX XC R1 cs
  generalize W4.drew = V5 at *
  refine wt (i := 0) (v := (.pointer (some ⟨gd, 0, none⟩))) rfl (yl_move (by rfl) _ (by rfl) _ (by rfl)) hH ?_
  change wpAnyH _ _ _ _ _ _ _ (Act.put _ (some 27) _) _
  simp only [Act.put, s0, s1, s2]
  refine wt (i := 1) (v := (.pointer (some ⟨gd, 0, none⟩))) rfl (.inl ⟨by rfl, fun W _ => by go_simp⟩) hH ?_
  change wpAnyH _ _ _ _ _ _ _ (Act.put _ (some 28) _) _
  simp only [Act.put, s0, s1, s2]
  refine wt (i := 2) (v := (.pointer (some ⟨gd, 0, none⟩))) rfl (.inl ⟨by rfl, fun W _ => by go_simp⟩) hH ?_
  change wpAnyH _ _ _ _ _ _ _ (Act.put _ (some 29) _) _
  simp only [Act.put, s0, s1, s2]
  refine wt (i := 3) (v := (.pointer (some ⟨gc, 0, none⟩))) rfl (.inl ⟨by rfl, fun W hS => by have c4 := (DD.out W hS).cells.1; go_simp⟩) hH ?_
  change wpAnyH _ _ _ _ _ _ _ (Act.put _ (some 30) _) _
  simp only [Act.put, s0, s1, s2]
  refine wt (i := 4) (v := (.pointer (some ⟨gc, 0, none⟩))) rfl (.inl ⟨by rfl, fun W _ => by go_simp⟩) hH ?_
  change wpAnyH _ _ _ _ _ _ _ (Act.put _ (some 31) _) _
  simp only [Act.put, s0, s1, s2]
  refine wt (i := 5) (v := (.pointer (some ⟨gc, 34, none⟩))) rfl (.inl ⟨by rfl, fun W _ => by go_simp⟩) hH ?_
  change wpAnyH _ _ _ _ _ _ _ (Act.put _ (some 32) _) _
  simp only [Act.put, s0, s1, s2]
  refine wt (i := 6) (v := (.map (some bc))) rfl (.inl ⟨by rfl, fun W hS => by have c4 := (coL_more TL.out (CS.out W hS).row).2.2; go_simp⟩) hH ?_
  change wpAnyH _ _ _ _ _ _ _ (Act.put _ (some 33) _) _
  simp only [Act.put, s0, s1, s2]
  refine wt (i := 7) (v := (.agg (hc x.m.idT))) rfl (yl_load (by rfl) _ (by rfl) _ (hc x.m.idT) (by rfl) (fun W hS => ld_row A25 IZ.out.1 (RI.out W hS))) hH ?_
  change wpAnyH _ _ _ _ _ _ _ (Act.put _ (some 34) _) _
  simp only [Act.put, s0, s1, s2]
  refine wt (i := 8) (v := (.int .i64 0)) rfl (yl_look16 (by rfl) _ _ _ _ (by rfl) _ _ (by rfl) (by rfl) _ (fun W hS => look0 (CS.out W hS).ct _ hl _ e1)) hH ?_
  change wpAnyH _ _ _ _ _ _ _ (Act.put _ (some 35) _) _
  simp only [Act.put, s0, s1, s2]
  refine wt (i := 9) (v := (.pointer (some ⟨gd, 0, none⟩))) rfl (yl_move (by rfl) _ (by rfl) _ (by rfl)) hH ?_
  change wpAnyH _ _ _ _ _ _ _ (Act.put _ (some 36) _) _
  simp only [Act.put, s0, s1, s2]
  refine wt (i := 10) (v := (.pointer (some ⟨gd, 0, none⟩))) rfl (.inl ⟨by rfl, fun W _ => by go_simp⟩) hH ?_
  change wpAnyH _ _ _ _ _ _ _ (Act.put _ (some 37) _) _
  simp only [Act.put, s0, s1, s2]
  refine wt (i := 11) (v := (.pointer (some ⟨gd, 4, none⟩))) rfl (.inl ⟨by rfl, fun W _ => by go_simp⟩) hH ?_
  change wpAnyH _ _ _ _ _ _ _ (Act.put _ (some 38) _) _
  simp only [Act.put, s0, s1, s2]
  refine wt (i := 12) (v := (.map (some gb))) rfl (.inl ⟨by rfl, fun W hS => by have c4 := (DD.out W hS).cells.2.2.2.2.1; go_simp⟩) hH ?_
  change wpAnyH _ _ _ _ _ _ _ (Act.put _ (some 39) _) _
  simp only [Act.put, s0, s1, s2]
  refine wt (i := 13) (v := (.agg (hc x.m.idT))) rfl (yl_load (by rfl) _ (by rfl) _ (hc x.m.idT) (by rfl) (fun W hS => ld_row A25 IZ.out.1 (RI.out W hS))) hH ?_
  change wpAnyH _ _ _ _ _ _ _ (Act.put _ (some 40) _) _
  simp only [Act.put, s0, s1, s2]
  refine wt (i := 14) (v := (.int .i64 0)) rfl (yl_look16 (by rfl) _ _ _ _ (by rfl) _ _ (by rfl) (by rfl) _ (fun W hS => look0 (DD.out W hS).ct _ hl _ e2)) hH ?_
  change wpAnyH _ _ _ _ _ _ _ (Act.put _ (some 41) _) _
  simp only [Act.put, s0, s1, s2]
  have w0 : IntKind.i64.wrap 0 = 0 := rfl
  refine wt (i := 15) (v := (.int .i64 0)) rfl (.inl ⟨by rfl, fun W _ => by go_simp⟩) hH ?_
  change wpAnyH _ _ _ _ _ _ _ (Act.put _ (some 42) _) _
  simp only [Act.put, s0, s1, s2]
  refine wt (i := 16) (v := (.bool false)) rfl (.inl ⟨by rfl, fun W _ => by go_simp⟩) hH ?_
  change wpAnyH _ _ _ _ _ _ _ (Act.put _ (some 43) _) _
  simp only [Act.put, s0, s1, s2]
  refine wpAnyH_done (by kernel_rfl) ?_ _
  clear hH CS
  go_upto_region 11 with (first | (go_at_call 150; refine (HB.out _ (XC4.out _ DV4.out).1).mono ?_; rintro e W6 ⟨rfl, be⟩; have B6 := hide (below_next DV4.out be); clear be) | ((with_reducible refine at_list ?_); refine wpList_loadS AT _ rfl w.heap.size rfl XA XZ.out 152 (RX4.out _ DV4.out) (by rfl) ?_))
  clear DV4 HB
  go_upto_region 12 with (first | (go_at_call 89; refine (HP.out _ (XC4.out _ B6.out).1).mono ?_; rintro e W7 ⟨bi, di, rfl, lp, be⟩; have B7 := hide (below_next B6.out be); have LP := hide lp; clear be lp) | ((with_reducible refine at_list ?_); first | refine wpList_loadS AT _ rfl w.heap.size rfl XA XZ.out 152 (RX4.out _ B6.out) (by rfl) ?_ | refine wpList_loadS A25 _ rfl g5 rfl (hc x.m.idT) IZ.out.1 46 (RI.out _ B6.out) (by rfl) ?_))
  clear B6 HP
  obtain ⟨gp, op, rfl⟩ := LP.out.base (by simp)
  have D7 := hide (DD.out _ B7.out)
  have R7 := hide (RI.out _ B7.out)
  have P7 : Hid (W7.rangeAt gp (op + 0 * 33) (⟨x.m.idT, 0, hl⟩ : Tp).cells) := LP.out.range 0 (by simp)
  have XA7 := hide (RX4.out _ B7.out)
  clear RI DD RX4 XC4 LP B7 G5
  go_loopw [58] (fun i wr => (i = .int .i64 0 ∧ wr = W7) ∨ (i = .int .i64 1 ∧ Hid (Dst B wr gd gc h tm ga gb (n + 1) (m + 1) (D.put (.string (⟨x.m.idT, 0, hl⟩ : Tp).keyB) (⟨⟨o.val, o.lock, h, true⟩, true⟩ : Chg).dat) (E.put (.string x.m.idT) (.lit (.int .i64 1)))))) (fun i _ => (1 - intOf i).toNat)
  case atStart => exact .inl ⟨rfl, rfl⟩
  case round =>
    rcases hrel with ⟨rfl, h9⟩ | ⟨rfl, DF⟩
    rotate_left
    · go_wp2
      go_ret
      exact ⟨rfl, DF.out⟩
    · subst wr
      have HW := hide LW.out.2.1
      clear e1 LW
      have KM := hide (And.intro hn hm)
      have PZ := hide (And.intro (⟨x.m.idT, 0, hl⟩ : Tp).size (⟨x.m.idT, 0, hl⟩ : Tp).all)
      go_upto_region 14 with ((with_reducible refine at_list ?_); first | refine wpLoadP _ rfl gp op rfl (⟨x.m.idT, 0, hl⟩ : Tp) (by have := P7.out; rwa [Nat.zero_mul, Nat.add_zero] at this) (by rfl) ?_ | refine wpList_allocA APt rfl rfl ?_ | refine wpList_store_newA APt rfl _ _ rfl _ rfl (⟨x.m.idT, 0, hl⟩ : Tp).cells.toArray PZ.out.1 PZ.out.2 rfl rfl ?_)
      have b8 := (Below.refl W7.heap.size W7).alloc (Nat.le_refl _) (.cells (⟨x.m.idT, 0, hl⟩ : Tp).cells.toArray 160)
      have R8 := hide (heap_alloc_last W7 (.cells (⟨x.m.idT, 0, hl⟩ : Tp).cells.toArray 160))
      have D8 := hide (D7.out.next b8)
      have I8 := hide ((b8.block _ (lt_heap R7.out)).trans R7.out)
      have A8 := hide ((b8.block _ (lt_heap XA7.out)).trans XA7.out)
      have G8 := hide (show g5 < W7.heap.size from lt_heap R7.out)
      clear b8 D7 R7 XA7 P7
      generalize W7.alloc (.cells (⟨x.m.idT, 0, hl⟩ : Tp).cells.toArray 160) = W8 at *
      generalize W7.heap.size = g10 at *
      have DV8 := hide (Below.refl W8.heap.size W8).drew
      have D9 := hide (D8.out.next DV8.out)
      have R9 := hide ((DV8.out.block _ (lt_heap R8.out)).trans R8.out)
      have I9 := hide ((DV8.out.block _ (lt_heap I8.out)).trans I8.out)
      have A9 := hide ((DV8.out.block _ (lt_heap A8.out)).trans A8.out)
      refine wp_region_held_drew (S := fun W => Below B.heap.size B W ∧ (W.cell? ⟨gd, 1, none⟩ = some (.int .i64 h) ∧ W.cell? ⟨gd, 3, none⟩ = some (.map (some ga))) ∧ W.heap[g10]? = some (.cells (⟨x.m.idT, 0, hl⟩ : Tp).cells.toArray 160 (0, 0)) ∧ W.heap[w.heap.size]? = some (.cells XA 152 (0, 0))) (by kernel_rfl) ⟨D9.out.bel, ⟨D9.out.cells.2.1, D9.out.cells.2.2.2.1⟩, R9.out, A9.out⟩ (fun hH => ?_)
      clear D8 R8 I8 A8 DV8
      generalize W8.drew = V9 at *
      have BC : Hid (∀ W, (Instr.build 189 #[(0, .agg o.cells.toArray), (1, .int .i64 h), (2, .bool true)]).run Tryz.prog W = .ok (.agg (⟨o.val, o.lock, h, true⟩ : Cn).cells.toArray) W) := fun W => by kernel_rfl
      have BH : Hid (∀ W, (Instr.build 202 #[(0, .agg (⟨o.val, o.lock, h, true⟩ : Cn).cells.toArray), (1, .bool true)]).run Tryz.prog W = .ok (.agg (⟨⟨o.val, o.lock, h, true⟩, true⟩ : Chg).cells.toArray) W) := fun W => by kernel_rfl
      have LDO : Hid (∀ W, Below B.heap.size B W → (Instr.loadAt 156 (.pointer (some ⟨go, oo, none⟩))).run Tryz.prog W = .ok (.agg o.cells.toArray) W) := fun W b => run_loadAt_mid W go oo 156 _ _ (by have := LO2.out W b; rwa [Nat.zero_mul, Nat.add_zero] at this) Tryz.underlying156 rfl (by kernel_rfl)
      refine wt (i := 0) (v := (.pointer (some ⟨gd, 0, none⟩))) rfl (yl_move (by rfl) _ (by rfl) _ (by rfl)) hH ?_
      change wpAnyH _ _ _ _ _ _ _ (Act.put _ (some 63) _) _
      simp only [Act.put, s0, s1, s2]
      refine wt (i := 1) (v := (.pointer (some ⟨gd, 0, none⟩))) rfl (.inl ⟨by rfl, fun W _ => by go_simp⟩) hH ?_
      change wpAnyH _ _ _ _ _ _ _ (Act.put _ (some 64) _) _
      simp only [Act.put, s0, s1, s2]
      refine wt (i := 2) (v := (.pointer (some ⟨gd, 3, none⟩))) rfl (.inl ⟨by rfl, fun W _ => by go_simp⟩) hH ?_
      change wpAnyH _ _ _ _ _ _ _ (Act.put _ (some 65) _) _
      simp only [Act.put, s0, s1, s2]
      refine wt (i := 3) (v := (.map (some ga))) rfl (.inl ⟨by rfl, fun W hS => by have c4 := hS.2.1.2; go_simp⟩) hH ?_
      change wpAnyH _ _ _ _ _ _ _ (Act.put _ (some 66) _) _
      simp only [Act.put, s0, s1, s2]
      refine wt (i := 4) (v := (.agg (⟨x.m.idT, 0, hl⟩ : Tp).cells.toArray)) rfl (yl_load (by rfl) _ (by rfl) _ (⟨x.m.idT, 0, hl⟩ : Tp).cells.toArray (by rfl) (fun W hS => ld_row APt PZ.out.1 hS.2.2.1)) hH ?_
      change wpAnyH _ _ _ _ _ _ _ (Act.put _ (some 67) _) _
      simp only [Act.put, s0, s1, s2]
      refine wt (i := 5) (v := (.pointer (some ⟨w.heap.size, 2, none⟩))) rfl (.inl ⟨by rfl, fun W _ => by go_simp⟩) hH ?_
      change wpAnyH _ _ _ _ _ _ _ (Act.put _ (some 68) _) _
      simp only [Act.put, s0, s1, s2]
      refine wt (i := 6) (v := (.slice (some ⟨go, oo, none⟩) 1 x.co)) rfl (.inl ⟨by rfl, fun W hS => by have c4 := (C2F.out W hS.2.2.2); go_simp⟩) hH ?_
      change wpAnyH _ _ _ _ _ _ _ (Act.put _ (some 69) _) _
      simp only [Act.put, s0, s1, s2]
      refine wt (i := 7) (v := (.int .i64 0)) rfl (yl_move (by rfl) _ (by rfl) _ (by rfl)) hH ?_
      change wpAnyH _ _ _ _ _ _ _ (Act.put _ (some 70) _) _
      simp only [Act.put, s0, s1, s2]
      refine wt (i := 8) (v := (.pointer (some ⟨go, oo, none⟩))) rfl (.inl ⟨by rfl, fun W _ => by go_simp⟩) hH ?_
      change wpAnyH _ _ _ _ _ _ _ (Act.put _ (some 71) _) _
      simp only [Act.put, s0, s1, s2]
      refine wt (i := 9) (v := (.agg o.cells.toArray)) rfl (yl_load (by rfl) _ (by rfl) _ o.cells.toArray (by rfl) (fun W hS => LDO.out W hS.1)) hH ?_
      change wpAnyH _ _ _ _ _ _ _ (Act.put _ (some 72) _) _
      simp only [Act.put, s0, s1, s2]
      refine wt (i := 10) (v := (.pointer (some ⟨gd, 0, none⟩))) rfl (yl_move (by rfl) _ (by rfl) _ (by rfl)) hH ?_
      change wpAnyH _ _ _ _ _ _ _ (Act.put _ (some 73) _) _
      simp only [Act.put, s0, s1, s2]
      refine wt (i := 11) (v := (.pointer (some ⟨gd, 0, none⟩))) rfl (.inl ⟨by rfl, fun W _ => by go_simp⟩) hH ?_
      change wpAnyH _ _ _ _ _ _ _ (Act.put _ (some 74) _) _
      simp only [Act.put, s0, s1, s2]
      refine wt (i := 12) (v := (.pointer (some ⟨gd, 1, none⟩))) rfl (.inl ⟨by rfl, fun W _ => by go_simp⟩) hH ?_
      change wpAnyH _ _ _ _ _ _ _ (Act.put _ (some 75) _) _
      simp only [Act.put, s0, s1, s2]
      refine wt (i := 13) (v := (.int .i64 h)) rfl (.inl ⟨by rfl, fun W hS => by have c4 := hS.2.1.1; go_simp⟩) hH ?_
      change wpAnyH _ _ _ _ _ _ _ (Act.put _ (some 76) _) _
      simp only [Act.put, s0, s1, s2]
      refine wt (i := 14) (v := (.bool true)) rfl (yl_move (by rfl) _ (by rfl) _ (by rfl)) hH ?_
      change wpAnyH _ _ _ _ _ _ _ (Act.put _ (some 77) _) _
      simp only [Act.put, s0, s1, s2]
      refine wt (i := 15) (v := (.agg (⟨o.val, o.lock, h, true⟩ : Cn).cells.toArray)) rfl (yl_build (by rfl) _ (by rfl) #[(0, .agg o.cells.toArray), (1, .int .i64 h), (2, .bool true)] (⟨o.val, o.lock, h, true⟩ : Cn).cells.toArray (by simp only [List.map_toArray, List.map_cons, List.map_nil]; rfl) BC.out) hH ?_
      change wpAnyH _ _ _ _ _ _ _ (Act.put _ (some 78) _) _
      simp only [Act.put, s0, s1, s2]
      refine wt (i := 16) (v := (.agg (⟨⟨o.val, o.lock, h, true⟩, true⟩ : Chg).cells.toArray)) rfl (yl_build (by rfl) _ (by rfl) #[(0, .agg (⟨o.val, o.lock, h, true⟩ : Cn).cells.toArray), (1, .bool true)] (⟨⟨o.val, o.lock, h, true⟩, true⟩ : Chg).cells.toArray (by simp only [List.map_toArray, List.map_cons, List.map_nil]; rfl) BH.out) hH ?_
      change wpAnyH _ _ _ _ _ _ _ (Act.put _ (some 79) _) _
      simp only [Act.put, s0, s1, s2]
      obtain ⟨VA, hrun, om, gr⟩ := D9.out.mp.store (val := .agg (⟨⟨o.val, o.lock, h, true⟩, true⟩ : Chg).cells.toArray) (d := (⟨⟨o.val, o.lock, h, true⟩, true⟩ : Chg).dat) (ps := []) lawP Tryz.underlying196 (by have := KM.out.1; unfold maxLen; omega) (keyP ⟨x.m.idT, 0, hl⟩) (chE_mk _)
      have DA := hide (D9.out.setM om gr.grown)
      have IA := hide ((gr.grown.block _ (lt_heap I9.out) (by intro e; cases e; have := GL.out; omega)).trans I9.out)
      have SA := hide (And.intro DA.out.bel (And.intro (And.intro DA.out.cells.2.1 DA.out.cells.2.2.2.1) (And.intro ((gr.grown.block _ (lt_heap R9.out) (by intro e; cases e; have := GL.out; have := G8.out; omega)).trans R9.out) ((gr.grown.block _ (lt_heap A9.out) (by intro e; cases e; have := HW.out; omega)).trans A9.out))))
      refine wpAnyH_ready (rs := [17]) (by kernel_rfl) (by simp) (AllReadyH.cons rfl (fun K1 hK1 => ?_) AllReadyH.nil)
      refine step_skip16 (by rfl) (ex_mapU16 _ _ _ _ (by rfl) _ _ _ (by rfl) (by rfl) (by rfl) hrun) ?_
      refine hK1.out _ _ SA.out (fun hH => ?_)
      clear hK1 hrun om gr
      change wpAnyH _ _ _ _ _ _ _ (Act.put _ none _) _
      simp only [Act.put]
      refine wpAnyH_done (by kernel_rfl) ?_ _
      clear hH D9 I9 R9 A9 SA BC BH LDO
      go_upto_region 15 with fail
      have C5 := hide (DA.out.next (Below.refl VA.heap.size VA).drew)
      have R7 := hide (show VA.drew.heap[g5]? = _ from IA.out)
      obtain ⟨st, V4, q1, q2, q3, q4, q5⟩ := C5.out.ct.entry KM.out.2 x.m.idT hl 0 (by decide) e2
      have e1 : IntKind.i64.wrap 1 = 1 := rfl
      refine wp_region_held_drew (S := fun W => W.cell? ⟨gd, 4, none⟩ = some (.map (some gb)) ∧ W.heap[g5]? = some (.cells (hc x.m.idT) 46 (0, 0))) (by kernel_rfl) ⟨C5.out.cells.2.2.2.2.1, R7.out⟩ (fun hH => ?_)
      have Q3 := hide (q3 _ C5.out.ct)
      generalize VA.drew = V3 at *
      clear DA IA q3
      refine wt (i := 0) (v := (.pointer (some ⟨gd, 0, none⟩))) rfl (yl_move (by rfl) _ (by rfl) _ (by rfl)) hH ?_
      change wpAnyH _ _ _ _ _ _ _ (Act.put _ (some 80) _) _
      simp only [Act.put, s0, s1, s2]
      refine wt (i := 1) (v := (.pointer (some ⟨gd, 0, none⟩))) rfl (.inl ⟨by rfl, fun W _ => by go_simp⟩) hH ?_
      change wpAnyH _ _ _ _ _ _ _ (Act.put _ (some 81) _) _
      simp only [Act.put, s0, s1, s2]
      refine wt (i := 2) (v := (.pointer (some ⟨gd, 4, none⟩))) rfl (.inl ⟨by rfl, fun W _ => by go_simp⟩) hH ?_
      change wpAnyH _ _ _ _ _ _ _ (Act.put _ (some 82) _) _
      simp only [Act.put, s0, s1, s2]
      refine wt (i := 3) (v := (.map (some gb))) rfl (.inl ⟨by rfl, fun W hS => by have c4 := hS.1; go_simp⟩) hH ?_
      change wpAnyH _ _ _ _ _ _ _ (Act.put _ (some 83) _) _
      simp only [Act.put, s0, s1, s2]
      refine wt (i := 4) (v := (.agg (hc x.m.idT))) rfl (yl_load (by rfl) _ (by rfl) _ (hc x.m.idT) (by rfl) (fun W hS => ld_row A25 IZ.out.1 hS.2)) hH ?_
      change wpAnyH _ _ _ _ _ _ _ (Act.put _ (some 84) _) _
      simp only [Act.put, s0, s1, s2]
      have RC6 := hide ((q2.block _ (lt_heap C5.out.row) (by intro e; cases e; exact C5.out.n2 rfl)).trans C5.out.row)
      have S4 : Hid (V4.cell? ⟨gd, 4, none⟩ = some (.map (some gb)) ∧ V4.heap[g5]? = some (.cells (hc x.m.idT) 46 (0, 0))) := ⟨by rw [cell_of_row _ _ _ _ _ _ RC6.out]; rfl, (q2.block _ (lt_heap R7.out) (by intro e; cases e; have := GL.out; omega)).trans R7.out⟩
      have Q4 := hide (q4 _ rfl)
      obtain ⟨V5b, t1, t2, t3⟩ := q5 V4 1 (by decide) rfl
      have g35 : V3.grownBy V5b (some gb) := q2.andThen t3 (fun j hj => .inr hj)
      have C7 := hide (C5.out.setC t2 g35)
      have S5 := hide (And.intro C7.out.cells.2.2.2.2.1 ((g35.block _ (lt_heap R7.out) (by intro e; cases e; have := GL.out; omega)).trans R7.out))
      have S3 := hide hH
      clear q4 q5 t2 t3 g35 q2 RC6 R7 C5
      refine wpAnyH_ready (rs := [5, 7]) (by kernel_rfl) (by simp) (AllReadyH.cons rfl (fun K1 hK1 => ?_) (AllReadyH.cons rfl (fun K1 hK1 => ?_) AllReadyH.nil))
      · refine step_run16 (by rfl) (ex_look16 _ _ _ _ (by rfl) _ _ _ (by rfl) (by rfl) Q3.out) ?_
        refine hK1.out _ _ S3.out (fun hH => ?_)
        clear hK1
        change wpAnyH _ _ _ _ _ _ _ (Act.put _ (some 85) _) _
        simp only [Act.put, s0, s1, s2]
        refine wt (i := 6) (v := (.int .i64 1)) rfl (.inl ⟨by rfl, fun W _ => by go_simp⟩) hH ?_
        change wpAnyH _ _ _ _ _ _ _ (Act.put _ (some 86) _) _
        simp only [Act.put, s0, s1, s2]
        refine wpAnyH_ready (rs := [7]) (by kernel_rfl) (by simp) (AllReadyH.cons rfl (fun K1 hK1 => ?_) AllReadyH.nil)
        refine step_run16 (by rfl) (ex_entry16 _ _ _ (by rfl) _ _ _ (by rfl) (by rfl) q1) ?_
        refine hK1.out _ _ S4.out (fun hH => ?_)
        clear hK1
        change wpAnyH _ _ _ _ _ _ _ (Act.put _ (some 87) _) _
        simp only [Act.put, s0, s1, s2]
        refine wt (i := 8) (v := (.int .i64 (st : Int))) rfl (.inl ⟨by rfl, fun W _ => by go_simp⟩) hH ?_
        change wpAnyH _ _ _ _ _ _ _ (Act.put _ (some 88) _) _
        simp only [Act.put, s0, s1, s2]
        refine wpAnyH_ready (rs := [9]) (by kernel_rfl) (by simp) (AllReadyH.cons rfl (fun K1 hK1 => ?_) AllReadyH.nil)
        refine step_skip16 (by rfl) (ex_estore16 _ _ _ _ (by rfl) _ _ _ (by rfl) (by rfl) (by rfl) t1) ?_
        refine hK1.out _ _ S5.out (fun hH => ?_)
        clear hK1
        change wpAnyH _ _ _ _ _ _ _ (Act.put _ none _) _
        simp only [Act.put]
        refine wpAnyH_done (by kernel_rfl) ?_ _
        clear hH
        go_wp2
        exact ⟨.inr ⟨rfl, C7⟩, by decide⟩
      · refine step_run16 (by rfl) (ex_entry16 _ _ _ (by rfl) _ _ _ (by rfl) (by rfl) q1) ?_
        refine hK1.out _ _ S4.out (fun hH => ?_)
        clear hK1
        change wpAnyH _ _ _ _ _ _ _ (Act.put _ (some 87) _) _
        simp only [Act.put, s0, s1, s2]
        refine wt (i := 8) (v := (.int .i64 (st : Int))) rfl (.inl ⟨by rfl, fun W _ => by go_simp⟩) hH ?_
        change wpAnyH _ _ _ _ _ _ _ (Act.put _ (some 88) _) _
        simp only [Act.put, s0, s1, s2]
        refine wpAnyH_ready (rs := [5]) (by kernel_rfl) (by simp) (AllReadyH.cons rfl (fun K1 hK1 => ?_) AllReadyH.nil)
        refine step_run16 (by rfl) (ex_look16 _ _ _ _ (by rfl) _ _ _ (by rfl) (by rfl) Q4.out) ?_
        refine hK1.out _ _ S4.out (fun hH => ?_)
        clear hK1
        change wpAnyH _ _ _ _ _ _ _ (Act.put _ (some 85) _) _
        simp only [Act.put, s0, s1, s2]
        refine wt (i := 6) (v := (.int .i64 1)) rfl (.inl ⟨by rfl, fun W _ => by go_simp⟩) hH ?_
        change wpAnyH _ _ _ _ _ _ _ (Act.put _ (some 86) _) _
        simp only [Act.put, s0, s1, s2]
        refine wpAnyH_ready (rs := [9]) (by kernel_rfl) (by simp) (AllReadyH.cons rfl (fun K1 hK1 => ?_) AllReadyH.nil)
        refine step_skip16 (by rfl) (ex_estore16 _ _ _ _ (by rfl) _ _ _ (by rfl) (by rfl) (by rfl) t1) ?_
        refine hK1.out _ _ S5.out (fun hH => ?_)
        clear hK1
        change wpAnyH _ _ _ _ _ _ _ (Act.put _ none _) _
        simp only [Act.put]
        refine wpAnyH_done (by kernel_rfl) ?_ _
        clear hH
        go_wp2
        exact ⟨.inr ⟨rfl, C7⟩, by decide⟩
end
theorem AAm : Arr 198 2 #[.int .u64 0, .int .u64 0] := ⟨.inr ⟨_, Tryz.underlying198⟩, by kernel_rfl, fun w => by kernel_rfl, fun w => by kernel_rfl, rfl⟩
section
set_option maxRecDepth 10000
set_option maxHeartbeats 4000000
theorem plus_zero (n : Nat) (hn : n < 18446744073709551616) (w : World) : Calls Tryz.prog 166 #[.agg #[.int .u64 0, .int .u64 0], .int .u64 (n : Int)] w fun e w' => e = .returned (.agg #[.int .u64 0, .int .u64 (n : Int)]) ∧ Below w.heap.size w w' := by
  have hC : ∀ W, (callFunc 228 #[.int .u64 0, .int .u64 (n : Int), .int .u64 0]).run Tryz.prog W = .ok (.value (.tuple #[.int .u64 (n : Int), .int .u64 0])) W := fun W => by
    have := add64_run 0 n 0 (by omega) W
    rw [show (0 + n + 0) = n by omega, Nat.mod_eq_of_lt hn, Nat.div_eq_of_lt hn] at this
    exact this
  have r1 := heap_alloc_last w (.cells #[.int .u64 0, .int .u64 0] 198)
  have b1 := (Below.refl w.heap.size w).alloc (Nat.le_refl _) (.cells #[.int .u64 0, .int .u64 0] 198)
  have s1 : (w.alloc (.cells #[.int .u64 0, .int .u64 0] 198)).heap.size = w.heap.size + 1 := by simp
  have b2 := b1.alloc (by rw [s1]; omega) (.cells #[.int .u64 0, .int .u64 0] 198)
  have R1 := hide ((Below.heap_alloc _ (.cells #[.int .u64 0, .int .u64 0] 198) _ (lt_heap r1)).trans r1)
  have R2 := hide (heap_alloc_last (w.alloc (.cells #[.int .u64 0, .int .u64 0] 198)) (.cells #[.int .u64 0, .int .u64 0] 198))
  have B2 := hide b2
  rw [s1] at R2
  clear r1 b1 b2
  go_enter Tryz.func166, Tryz.ntmps166
  go_upto_region 1 with ((with_reducible refine at_list ?_); first | refine wpList_boxA rfl _ rfl #[.int .u64 0, .int .u64 0] rfl ?_ | refine wpList_allocA AAm rfl rfl ?_)
  try rw [s1]
  clear s1
  generalize (w.alloc (.cells #[.int .u64 0, .int .u64 0] 198)).alloc (.cells #[.int .u64 0, .int .u64 0] 198) = W0 at *
  have c1 : W0.cell? ⟨w.heap.size, 1, none⟩ = some (.int .u64 0) := by rw [cell_of_row _ _ _ _ _ _ R1.out]; rfl
  have c0 : W0.cell? ⟨w.heap.size, 0, none⟩ = some (.int .u64 0) := by rw [cell_of_row _ _ _ _ _ _ R1.out]; rfl
  have w0 : IntKind.u64.wrap 0 = 0 := rfl
  have d0 : W0.cell? ⟨w.heap.size + 1, 0, none⟩ = some (.int .u64 0) := by rw [cell_of_row _ _ _ _ _ _ R2.out]; rfl
  have d1 : W0.cell? ⟨w.heap.size + 1, 1, none⟩ = some (.int .u64 0) := by rw [cell_of_row _ _ _ _ _ _ R2.out]; rfl
  go_upto_region 2 with (simp only [hC])
  have f0 := frozen_of_row W0 (w.heap.size + 1) 0 _ _ R2.out
  have f1 := frozen_of_row W0 (w.heap.size + 1) 1 _ _ R2.out
  go_wp2
  have r5 := heap_setCell_same W0 (w.heap.size + 1) 0 _ _ (.int .u64 0) R2.out
  have r6 := heap_setCell_same _ (w.heap.size + 1) 1 _ _ (.int .u64 (n : Int)) r5
  exact bodyPost_ret (v := .agg #[.int .u64 0, .int .u64 (n : Int)]) (resA AAm Tryz.results166 _ _ (w.heap.size + 1) 198 _ rfl rfl r6) rfl ⟨rfl, (B2.out.setCell (p := ⟨w.heap.size + 1, 0, none⟩) (by show _ ≤ w.heap.size + 1; omega) _).setCell (p := ⟨w.heap.size + 1, 1, none⟩) (by show _ ≤ w.heap.size + 1; omega) _⟩
theorem below_no (a n : Nat) (hn : n ≤ a) (w : World) : Calls Tryz.prog 167 #[.agg #[.int .u64 0, .int .u64 (a : Int)], .int .u64 (n : Int)] w fun e w' => e = .returned (.bool false) ∧ Below w.heap.size w w' := by
  have R1 := hide (heap_alloc_last w (.cells #[.int .u64 0, .int .u64 (a : Int)] 198))
  have B1 := hide ((Below.refl w.heap.size w).alloc (Nat.le_refl _) (.cells #[.int .u64 0, .int .u64 (a : Int)] 198))
  have q1 : decide (a < n) = false := decide_eq_false (by omega)
  go_enter Tryz.func167, Tryz.ntmps167
  go_upto_region 1 with ((with_reducible refine at_list ?_); refine wpList_boxA rfl _ rfl #[.int .u64 0, .int .u64 (a : Int)] rfl ?_)
  generalize w.alloc (.cells #[.int .u64 0, .int .u64 (a : Int)] 198) = W0 at *
  have c1 : W0.cell? ⟨w.heap.size, 1, none⟩ = some (.int .u64 (a : Int)) := by rw [cell_of_row _ _ _ _ _ _ R1.out]; rfl
  have c0 : W0.cell? ⟨w.heap.size, 0, none⟩ = some (.int .u64 0) := by rw [cell_of_row _ _ _ _ _ _ R1.out]; rfl
  go_wp2
  go_ret
  exact ⟨rfl, B1.out⟩
end
end Go.Proofs.YtcoojkpimbddlaaGreatDoor
