/- A tree: ancestor (of a node that is not above the height), At; the calls of a nil tree: their contracts. Locators: Heights of 0, Make of genesis, the law's awake: their contracts. A tree: Len, Best, the bits that are asked for, the median of genesis: their contracts. A tree: the median of genesis, whether a header may stand on it: their contracts. A tree: a header that may stand on a node (fits); which of two nodes leads: their contracts. -/
import Derived.Test.YtcoojkpimbddlaaGreatDoorP0
import Derived.Test.YtcoojkpimbddlaaGreatDoorX26
import Derived.Test.YtcoojkpimbddlaaGreatDoorX21
import Derived.Test.YtcoojkpimbddlaaGreatDoorX15
import Derived.Test.YtcoojkpimbddlaaGreatDoorX09
namespace Go.Proofs.YtcoojkpimbddlaaGreatDoor
open Go.RowKit
open Go.Deep
open Go.Maps
set_option linter.unusedVariables false
set_option linter.unusedSimpArgs false
theorem ld25_14 {W : World} {g off : Nat} {y : List UInt8} (hy : y.length = 32) (hr : W.rangeAt g off (cellsL y)) : (Instr.loadAt 46 (.pointer (some ⟨g, off, none⟩))).run Tryz.prog W = .ok (.agg (hc y)) W :=
  run_loadAt_mid W g off 46 _ _ hr Tryz.underlying46 rfl (by rw [cellsL_len, hy]; kernel_rfl)
theorem Tm4.put {B W : World} {gt gm n : Nat} {D : DataW Unit} {ve : Value} {L : List Tno} {tu be bh : Nat} (h : Tm4 B W gt gm n D ve L tu be bh) {W0 : World} {g : Nat} (h0 : Tm4 B W0 gt gm n D ve L tu be bh) (hg : W0.heap.size ≤ g) (cs : Array Value) : Tm4 B (W.setRow g cs) gt gm n D ve L tu be bh :=
  h.fr (S := fun q => q = g) ⟨rfl, rfl, rfl, by simp, fun k _ hn => setRow_other W g k cs hn⟩ (fun q e => by
    subst e
    refine ⟨Nat.le_trans h0.bel.size hg, ?_, ?_, ?_⟩
    · have := lt_heap h0.row; omega
    · have := h0.map.lt; omega
    · intro e; have := h0.own.lt _ e; omega)
section
set_option maxRecDepth 10000
set_option maxHeartbeats 4000000
theorem anc_here {B w : World} {gt gm n : Nat} {D : DataW Unit} {ve : Value} {L : List Tno} {tu be bh : Nat} (h : Tm4 B w gt gm n D ve L tu be bh) (hm : L.length ≤ 1000000) (k : Nat) (hk : k < L.length) (ht : Int) (hh : (L[k].ht : Int) ≤ ht) : Calls Tryz.prog 170 #[.pointer (some ⟨gt, 0, none⟩), .int .i64 (k : Int), .int .i64 ht] w fun e w' => e = .returned (.int .i64 (k : Int)) ∧ Below w.heap.size w w' := by
  obtain ⟨ao, cap, rfl⟩ := h.own.form
  obtain ⟨ge, oe, rfl⟩ := h.own.read.base (by omega)
  have c1 := h.cells.2.1
  have c2 : w.cell? ⟨ge, oe + k * 114 + 100, none⟩ = some (.int .i64 (L[k].ht : Int)) := L[k].cht (h.own.read.range k hk)
  have h1 : (k : Int) < (L.length : Int) := by omega
  have h2 : (0 : Int) ≤ (k : Int) := by omega
  have h3 : ¬ (L[k].ht : Int) > ht := by omega
  have h4 : ¬ ht < (L[k].ht : Int) := by omega
  clear h hm hh
  generalize L[k].ht = z at *
  clear hk
  go_enter Tryz.func170, Tryz.ntmps170
  go_wp2
  go_loopw [1] (fun i wr => i = .int .i64 (k : Int) ∧ wr = w) (fun _ _ => 0)
  case atStart => exact ⟨rfl, rfl⟩
  case round =>
    obtain ⟨rfl, rfl⟩ := hrel
    go_wp2
    go_ret
    exact ⟨rfl, Below.refl _ _⟩
end
theorem mk_h1 (W : World) : (Instr.makeSlice 40 (.int .i64 1) (.int .i64 1)).run Tryz.prog W = .ok (.slice (some ⟨W.heap.size, 0, none⟩) 1 1) (W.alloc (.cells (hc zeros) 46)) := by kernel_rfl
section
variable {w : World} {ops : Array Oper} {rest : List Oper} {o : Oper} {a : Act} {Q : Exit → Act → World → Prop}
theorem wp_bs14 (hgd : o.guard = none) (t : TypeId) (n : Nat) (y : Array (Nat × Operand)) (ho : o.op = .buildSlice t n y) (y' : Array (Nat × Value)) (hy : y.map (fun p => (p.1, a.eval p.2)) = y') (v : Value) (w1 : World) (hr : (Instr.buildSlice t n y').run Tryz.prog w = .ok v w1) (h : wpList Tryz.prog ops Q rest (a.put o.dst v) w1) : wpList Tryz.prog ops Q (o :: rest) a w := by
  refine wpList_plain hgd fun K hK => ?_
  unfold Oper.wp execOp
  simp only [ho, hy, hr, Sem.run_bind, Result.andThen_ok, Sem.run_pure]
  exact hK _ _ h
theorem wp_mks14 (hgd : o.guard = none) (t : TypeId) (x y : Operand) (ho : o.op = .makeSlice t x y) (vx vy : Value) (hx : a.eval x = vx) (hy : a.eval y = vy) (v : Value) (w1 : World) (hr : (Instr.makeSlice t vx vy).run Tryz.prog w = .ok v w1) (h : wpList Tryz.prog ops Q rest (a.put o.dst v) w1) : wpList Tryz.prog ops Q (o :: rest) a w := by
  refine wpList_plain hgd fun K hK => ?_
  unfold Oper.wp execOp
  simp only [ho, hx, hy, hr, Sem.run_bind, Result.andThen_ok, Sem.run_pure]
  exact hK _ _ h
end
section
set_option maxRecDepth 10000
set_option maxHeartbeats 4000000
end
section
set_option maxRecDepth 10000
set_option maxHeartbeats 4000000
theorem lenT_any {B w : World} {gt gm n : Nat} {D : DataW Unit} {ve : Value} {L : List Tno} {tu be bh : Nat} (h : Tm4 B w gt gm n D ve L tu be bh) : Calls Tryz.prog 51 #[.pointer (some ⟨gt, 0, none⟩)] w fun e w' => e = .returned (.int .i64 (L.length : Int)) ∧ w' = w := by
  obtain ⟨ao, cap, rfl⟩ := h.own.form
  have c1 := h.cells.2.1
  clear h
  go_enter Tryz.func51, Tryz.ntmps51
  go_wp2
  go_ret
  exact ⟨rfl, rfl⟩
theorem bestT_any {B w : World} {gt gm n : Nat} {D : DataW Unit} {ve : Value} {L : List Tno} {tu be bh : Nat} (h : Tm4 B w gt gm n D ve L tu be bh) (hm : L.length ≤ 1000000) (hb : be < L.length) : Calls Tryz.prog 16 #[.pointer (some ⟨gt, 0, none⟩)] w fun e w' => e = .returned (.agg (hc L[be].id)) ∧ Below w.heap.size w w' := by
  have R4 := hide (heap_alloc_last w (.cells (hc zeros) 46))
  have b1 := (Below.refl w.heap.size w).alloc (Nat.le_refl _) (.cells (hc zeros) 46)
  have B1 := hide b1
  have X1 := hide (h.next b1)
  obtain ⟨ao, cap, rfl⟩ := h.own.form
  obtain ⟨ge, oe, rfl⟩ := h.own.read.base (by omega)
  have H0 := hide h
  have HL := hide (fun W (q : Tm4 B W gt gm n D (.slice (some ⟨ge, oe, none⟩) L.length cap) L tu be bh) => lenT_any q)
  have LI : Hid (∀ W, Tm4 B W gt gm n D (.slice (some ⟨ge, oe, none⟩) L.length cap) L tu be bh → W.rangeAt ge (oe + be * 114) (cellsL L[be].id)) := fun W x => L[be].rid (x.own.read.range be hb)
  have h0 : ¬ (L.length : Int) = 0 := by omega
  have h0' : decide ((L.length : Int) = 0) = false := decide_eq_false h0
  have h1 : (be : Int) < (L.length : Int) := by omega
  have h2 : (0 : Int) ≤ (be : Int) := by omega
  have IZ := hide (And.intro (show (hc L[be].id).size = 32 by rw [hc_size, L[be].hi]) (hc_one L[be].id))
  have HI := hide L[be].hi
  have ZZ := hide (And.intro (show (hc zeros).size = 32 by rw [hc_size, zeros_len]) (hc_one zeros))
  clear b1 h hm
  generalize L[be].id = I at *
  clear hb
  go_enter Tryz.func16, Tryz.ntmps16
  go_upto_region 1 with ((with_reducible refine at_list ?_); refine wpList_allocA A25 rfl rfl ?_)
  generalize w.alloc (.cells (hc zeros) 46) = W0 at *
  go_upto_region 3 with (go_at_call 51; refine (HL.out _ X1.out).mono ?_; rintro e W1 ⟨rfl, hw⟩; subst W1)
  have DV1 := hide ((Below.refl W0.heap.size W0).drew)
  refine wp_region_held_drew (S := fun W => Tm4 B W gt gm n D (.slice (some ⟨ge, oe, none⟩) L.length cap) L tu be bh) (by kernel_rfl) (X1.out.next DV1.out) (fun hH => ?_)
  have R6 := hide ((DV1.out.block _ (lt_heap R4.out)).trans R4.out)
  have B3 := hide (below_next B1.out DV1.out)
  have X3 := hide (X1.out.next DV1.out)
  generalize hWd : W0.drew = V1 at *
  clear hWd
  refine wt (i := 0) (v := (.pointer (some ⟨gt, 0, none⟩))) rfl (yl_move (by rfl) _ (by rfl) _ (by rfl)) hH ?_
  change wpAnyH _ _ _ _ _ _ _ (Act.put _ (some 7) _) _
  simp only [Act.put, s0, s1, s2]
  refine wt (i := 1) (v := (.pointer (some ⟨gt, 0, none⟩))) rfl (.inl ⟨by rfl, fun W _ => by go_simp⟩) hH ?_
  change wpAnyH _ _ _ _ _ _ _ (Act.put _ (some 8) _) _
  simp only [Act.put, s0, s1, s2]
  refine wt (i := 2) (v := (.pointer (some ⟨gt, 1, none⟩))) rfl (.inl ⟨by rfl, fun W _ => by go_simp⟩) hH ?_
  change wpAnyH _ _ _ _ _ _ _ (Act.put _ (some 9) _) _
  simp only [Act.put, s0, s1, s2]
  refine wt (i := 3) (v := (.slice (some ⟨ge, oe, none⟩) L.length cap)) rfl (.inl ⟨by rfl, fun W hS => by have c4 := hS.cells.2.1; go_simp⟩) hH ?_
  change wpAnyH _ _ _ _ _ _ _ (Act.put _ (some 10) _) _
  simp only [Act.put, s0, s1, s2]
  refine wt (i := 4) (v := (.pointer (some ⟨gt, 0, none⟩))) rfl (yl_move (by rfl) _ (by rfl) _ (by rfl)) hH ?_
  change wpAnyH _ _ _ _ _ _ _ (Act.put _ (some 11) _) _
  simp only [Act.put, s0, s1, s2]
  refine wt (i := 5) (v := (.pointer (some ⟨gt, 0, none⟩))) rfl (.inl ⟨by rfl, fun W _ => by go_simp⟩) hH ?_
  change wpAnyH _ _ _ _ _ _ _ (Act.put _ (some 12) _) _
  simp only [Act.put, s0, s1, s2]
  refine wt (i := 6) (v := (.pointer (some ⟨gt, 3, none⟩))) rfl (.inl ⟨by rfl, fun W _ => by go_simp⟩) hH ?_
  change wpAnyH _ _ _ _ _ _ _ (Act.put _ (some 13) _) _
  simp only [Act.put, s0, s1, s2]
  refine wt (i := 7) (v := (.int .i64 (be : Int))) rfl (.inl ⟨by rfl, fun W hS => by have c4 := hS.cells.2.2.2.1; go_simp⟩) hH ?_
  change wpAnyH _ _ _ _ _ _ _ (Act.put _ (some 14) _) _
  simp only [Act.put, s0, s1, s2]
  refine wt (i := 8) (v := (.pointer (some ⟨ge, oe + be * 114, none⟩))) rfl (.inl ⟨by rfl, fun W _ => by go_simp⟩) hH ?_
  change wpAnyH _ _ _ _ _ _ _ (Act.put _ (some 15) _) _
  simp only [Act.put, s0, s1, s2]
  refine wt (i := 9) (v := (.pointer (some ⟨ge, oe + be * 114, none⟩))) rfl (.inl ⟨by rfl, fun W _ => by go_simp⟩) hH ?_
  change wpAnyH _ _ _ _ _ _ _ (Act.put _ (some 16) _) _
  simp only [Act.put, s0, s1, s2]
  refine wt (i := 10) (v := (.pointer (some ⟨ge, oe + be * 114, none⟩))) rfl (.inl ⟨by rfl, fun W _ => by go_simp⟩) hH ?_
  change wpAnyH _ _ _ _ _ _ _ (Act.put _ (some 17) _) _
  simp only [Act.put, s0, s1, s2]
  refine wt (i := 11) (v := (.agg (hc I))) rfl (yl_load (by rfl) _ (by rfl) _ (hc I) (by rfl) (fun W hS => ld25_14 HI.out (LI.out W hS))) hH ?_
  change wpAnyH _ _ _ _ _ _ _ (Act.put _ (some 18) _) _
  simp only [Act.put, s0, s1, s2]
  refine wpAnyH_ready (rs := [12]) (by kernel_rfl) (by simp) (AllReadyH.cons rfl (fun K1 hK1 => ?_) AllReadyH.nil)
  refine stepStoreA A25 (by rfl) _ _ (by rfl) w.heap.size (hc I) IZ.out.1 IZ.out.2 (by rfl) (by rfl) (hc zeros) ZZ.out.1 _ R6.out ?_
  refine hK1.out _ _ (X3.out.put H0.out (Nat.le_refl _) _) (fun hH => ?_)
  clear hK1
  change wpAnyH _ _ _ _ _ _ _ (Act.put _ none _) _
  simp only [Act.put]
  refine wpAnyH_done (by kernel_rfl) ?_ _
  go_wp2
  exact bodyPost_ret (v := .agg (hc I)) (resA A25 Tryz.results16 _ _ w.heap.size 46 _ IZ.out.1 rfl (setRow_heap _ _ _ _ _ _ R6.out)) rfl ⟨rfl, below_setRow B3.out (Nat.le_refl _) _⟩
theorem asked_no {B w : World} {gt gm n : Nat} {D : DataW Unit} {ve : Value} {L : List Tno} {tu be bh : Nat} (h : Tm4 B w gt gm n D ve L tu be bh) (hm : L.length ≤ 1000000) (k : Nat) (hk : k < L.length) (hh : (L[k].ht + 1) % 8 ≠ 0) (hz : L[k].ht ≤ 1000000) : Calls Tryz.prog 196 #[.pointer (some ⟨gt, 0, none⟩), .int .i64 (k : Int)] w fun e w' => e = .returned (.int .u32 (L[k].h.bits.toNat : Int)) ∧ w' = w := by
  obtain ⟨ao, cap, rfl⟩ := h.own.form
  obtain ⟨ge, oe, rfl⟩ := h.own.read.base (by omega)
  have c1 := h.cells.2.1
  have c2 : w.cell? ⟨ge, oe + k * 114 + 100, none⟩ = some (.int .i64 (L[k].ht : Int)) := L[k].cht (h.own.read.range k hk)
  have c3 : w.cell? ⟨ge, oe + k * 114 + 32 + 66, none⟩ = some (.int .u32 (L[k].h.bits.toNat : Int)) := L[k].h.bits0 (L[k].rhd (h.own.read.range k hk))
  have h1 : (k : Int) < (L.length : Int) := by omega
  have h2 : (0 : Int) ≤ (k : Int) := by omega
  have e1 : IntKind.i64.wrap ((L[k].ht : Int) + 1) = (L[k].ht : Int) + 1 := wrapI _ (by omega) (by omega)
  have e2 : ¬ ((L[k].ht : Int) + 1).tmod 8 = 0 := by
    rw [Int.tmod_eq_emod_of_nonneg (by omega)]
    omega
  have e4 : ((((L[k].ht : Int) + 1) % 8) != 0) = true := by
    rw [bne_iff_ne]
    omega
  have e3 : wrap64 (((L[k].ht : Int) + 1).tmod 8) = ((L[k].ht : Int) + 1).tmod 8 := by
    rw [Int.tmod_eq_emod_of_nonneg (by omega)]
    unfold wrap64
    omega
  clear h hm hh hz
  generalize L[k].ht = z at *
  generalize L[k].h.bits.toNat = NB at *
  clear hk
  go_enter Tryz.func196, Tryz.ntmps196
  go_wp2
  go_ret
  exact ⟨rfl, rfl⟩
theorem insSort1 (g f c : Nat) (w : World) : Calls Tryz.prog 320 #[.slice (some ⟨g, f, none⟩) 1 c, .int .i64 0, .int .i64 1] w fun e w' => e = .returned (.tuple #[]) ∧ w' = w := by
  go_enter Tryz.func320, Tryz.ntmps320
  go_wp2
  go_loopw [6] (fun i wr => i = .int .i64 1 ∧ wr = w) (fun _ _ => 0)
  case atStart => exact ⟨rfl, rfl⟩
  case round =>
    obtain ⟨rfl, rfl⟩ := hrel
    go_wp2
    exact bodyPost_end (results_none (by kernel_rfl) _ _ _) rfl ⟨rfl, rfl⟩
theorem pdq1 (g f c : Nat) (n : Int) (w : World) : Calls Tryz.prog 301 #[.slice (some ⟨g, f, none⟩) 1 c, .int .i64 0, .int .i64 1, .int .i64 n] w fun e w' => e = .returned (.tuple #[]) ∧ w' = w := by
  have HI := hide (fun W => insSort1 g f c W)
  go_enter Tryz.func301, Tryz.ntmps301
  go_wp2
  go_loopw [1, 2, 3, 8, 9] (fun a b l x y wr => a = .int .i64 0 ∧ b = .int .i64 1 ∧ wr = w) (fun _ _ _ _ _ _ => 0)
  case atStart => exact ⟨rfl, rfl, rfl⟩
  case round =>
    obtain ⟨rfl, rfl, rfl⟩ := hrel
    go_wp2_with (go_at_call 320; refine (HI.out _).mono ?_; rintro e W1 ⟨rfl, hw⟩; subst hw)
    first | exact bodyPost_ret (results_none (by kernel_rfl) _ _ _) rfl ⟨rfl, rfl⟩ | exact bodyPost_end (results_none (by kernel_rfl) _ _ _) rfl ⟨rfl, rfl⟩
theorem bitLen14 (x : Nat) (h1 : x < 18446744073709551616) (w : World) : Calls Tryz.prog 203 #[.int .u64 (x : Int)] w fun e w' => e = .returned (.int .i64 ((bl x : Nat) : Int)) ∧ w' = w := by
  have HL := hide fun W => len64_int (x : Int) (by omega) (by omega) W
  rw [Int.toNat_natCast] at HL
  clear h1
  go_enter Tryz.func203, Tryz.ntmps203
  go_wp2_with (go_at_call 265; refine (HL.out _).mono ?_; rintro e w3 ⟨rfl, hw3⟩; subst w3)
  go_ret
  exact ⟨rfl, rfl⟩
theorem sort1 (g f c : Nat) (w : World) : Calls Tryz.prog 251 #[.slice (some ⟨g, f, none⟩) 1 c] w fun e w' => e = .returned (.tuple #[]) ∧ w' = w := by
  have HP := hide (fun n W => pdq1 g f c n W)
  have HL := hide (fun W => bitLen14 1 (by omega) W)
  go_enter Tryz.func251, Tryz.ntmps251
  go_wp2_with (first | (go_at_call 203; refine (HL.out _).mono ?_; rintro e W1 ⟨rfl, hw⟩; subst W1) | (go_at_call 301; refine (HP.out _ _).mono ?_; rintro e W1 ⟨rfl, hw⟩; subst W1))
  exact bodyPost_end (results_none (by kernel_rfl) _ _ _) rfl ⟨rfl, rfl⟩
end
def KSe : Ek UInt32 := ⟨318, 31, 1, 4, fun x => [.int .u32 (x.toNat : Int)], by decide, by decide, Tryz.underlying318, by kernel_rfl, fun _ => rfl, fun x v hv => by
  rw [List.mem_singleton.1 hv]
  rfl⟩
def z11 : Array Value := #[.int .u32 0, .int .u32 0, .int .u32 0, .int .u32 0, .int .u32 0, .int .u32 0, .int .u32 0, .int .u32 0, .int .u32 0, .int .u32 0, .int .u32 0]
theorem mk_u11 (W : World) : (Instr.makeSlice 318 (.int .i64 0) (.int .i64 11)).run Tryz.prog W = .ok (.slice (some ⟨W.heap.size, 0, none⟩) 0 11) (W.alloc (.cells z11 31)) := by kernel_rfl
theorem bs_u (t : UInt32) (W : World) : (Instr.buildSlice 318 1 #[(0, .int .u32 (t.toNat : Int))]).run Tryz.prog W = .ok (.slice (some ⟨W.heap.size, 0, none⟩) 1 1) (W.alloc (.cells (KSe.enc t).toArray KSe.e)) := by kernel_rfl
theorem ox_u11 {W : World} {g : Nat} (h : W.heap[g]? = some (.cells z11 31 (0, 0))) : OX KSe W (.slice (some ⟨g, 0, none⟩) 0 11) [] :=
  ⟨rfl, .inr ⟨g, 11, z11, rfl, Nat.zero_le _, h, Nat.zero_le _, by unfold maxLen; omega, rfl, rfl⟩⟩
theorem Tm4.apart {B W0 W W' : World} {gt gm n : Nat} {D : DataW Unit} {ve : Value} {L : List Tno} {tu be bh : Nat} (h : Tm4 B W gt gm n D ve L tu be bh) (h0 : Tm4 B W0 gt gm n D ve L tu be bh) {S : Nat → Prop} (f : Frt S W W') (hS : ∀ g, S g → W0.heap.size ≤ g) : Tm4 B W' gt gm n D ve L tu be bh :=
  h.fr f (fun q e => by
    have hg := hS q e
    refine ⟨Nat.le_trans h0.bel.size hg, ?_, ?_, ?_⟩
    · have := lt_heap h0.row; omega
    · have := h0.map.lt; omega
    · intro e; have := h0.own.lt _ e; omega)
section
set_option maxRecDepth 10000
set_option maxHeartbeats 4000000
theorem median0 {B w : World} {gt gm n : Nat} {D : DataW Unit} {ve : Value} {L : List Tno} {tu be bh : Nat} (h : Tm4 B w gt gm n D ve L tu be bh) (hm : L.length ≤ 1000000) (k : Nat) (hk : k < L.length) (hz : L[k].ht = 0) : Calls Tryz.prog 197 #[.pointer (some ⟨gt, 0, none⟩), .int .i64 (k : Int)] w fun e w' => e = .returned (.int .u32 (L[k].h.time.toNat : Int)) ∧ Below w.heap.size w w' := by
  obtain ⟨ao, cap, rfl⟩ := h.own.form
  obtain ⟨ge, oe, rfl⟩ := h.own.read.base (by omega)
  have RR : Hid (∀ W, Tm4 B W gt gm n D (.slice (some ⟨ge, oe, none⟩) L.length cap) L tu be bh → W.cell? ⟨ge, oe + k * 114 + 100, none⟩ = some (.int .i64 0) ∧ W.cell? ⟨ge, oe + k * 114 + 32 + 65, none⟩ = some (.int .u32 (L[k].h.time.toNat : Int))) := fun W x => by
    have := L[k].cht (x.own.read.range k hk)
    rw [hz] at this
    exact ⟨this, L[k].h.time0 (L[k].rhd (x.own.read.range k hk))⟩
  have H0 := hide h
  have h1 : (k : Int) < (L.length : Int) := by omega
  have h2 : (0 : Int) ≤ (k : Int) := by omega
  clear h hm hz
  generalize L[k].h.time = T at *
  clear hk
  go_enter Tryz.func197, Tryz.ntmps197
  go_upto_region 1 with fail
  go_wp2_with ((with_reducible refine at_list ?_); refine wp_mks14 rfl _ _ _ rfl (.int .i64 0) (.int .i64 11) rfl rfl _ _ (mk_u11 _) ?_)
  have b1 := (Below.refl w.heap.size w).alloc (Nat.le_refl _) (.cells z11 31)
  have B1 := hide b1
  have X1 := hide (H0.out.next b1)
  have O1 := hide (ox_u11 (heap_alloc_last w (.cells z11 31)))
  clear b1
  generalize w.alloc (.cells z11 31) = W1 at *
  go_loopw [1, 5] (fun i s wr => i = .int .i64 (k : Int) ∧ s = .slice (some ⟨w.heap.size, 0, none⟩) 0 11 ∧ wr = W1) (fun _ _ _ => 0)
  case atStart => exact ⟨rfl, rfl, rfl⟩
  case round =>
    obtain ⟨rfl, rfl, rfl⟩ := hrel
    have c1 := X1.out.cells.2.1
    obtain ⟨c2, c3⟩ := RR.out _ X1.out
    go_upto_region 5 with ((with_reducible refine at_list ?_); first | refine wp_bs14 rfl _ _ _ rfl #[(0, .int .u32 (T.toNat : Int))] (by simp only [List.map_toArray, List.map_cons, List.map_nil]; rfl) _ _ (bs_u T _) ?_ | (refine Ek.wpApp KSe rfl _ _ rfl (.slice (some ⟨w.heap.size, 0, none⟩) 0 11) [] rfl (O1.out.below ((Below.refl wr.heap.size wr).alloc (Nat.le_refl _) (.cells (KSe.enc T).toArray KSe.e))) _ 1 1 [T] rfl rfl (one_newX (E := KSe) wr T) (by show (0 + 1) * 4 ≤ _; omega) (by show 0 + 1 ≤ _; unfold maxLen; omega) ?_; intro v' w' ho hon))
    have b2 := (Below.refl wr.heap.size wr).alloc (Nat.le_refl _) (.cells (KSe.enc T).toArray KSe.e)
    have F2 : Hid (Frt (fun g => g = w.heap.size) wr w') := (Frt.of_below b2).trans' (Frt.of_grown hon.grown (fun g e => by cases e; rfl))
    have X2 := hide (X1.out.apart H0.out F2.out (fun g e => by rw [e]; exact Nat.le_refl _))
    have O2 := hide ho
    have B2 : Hid (Below w.heap.size w w') := ⟨F2.out.os.trans B1.out.os, F2.out.tape.trans B1.out.tape, F2.out.output.trans B1.out.output, Nat.le_trans B1.out.size F2.out.size, fun q hq => (F2.out.block q (Nat.lt_of_lt_of_le hq B1.out.size) (fun e => by omega)).trans (B1.out.block q hq)⟩
    clear b2 ho hon c1 c2 c3 F2
    obtain ⟨a3, k3, rfl⟩ := O2.out.form
    obtain ⟨g3, f3, rfl⟩ := O2.out.read.base (by simp)
    have c5 : w'.cell? ⟨g3, f3, none⟩ = some (.int .u32 (T.toNat : Int)) := by
      have := O2.out.read.range 0 (by simp) 0 _ rfl
      rw [Nat.zero_mul] at this
      exact this
    rw [show ([] ++ [T] : List UInt32).length = 1 from rfl] at O2 ⊢
    obtain ⟨c2, c3⟩ := RR.out _ X2.out
    have HS := hide (fun W => sort1 g3 f3 k3 W)
    go_wp2_with (go_at_call 251; refine (HS.out _).mono ?_; rintro e W5 ⟨rfl, hw⟩; subst W5)
    go_ret
    exact ⟨rfl, B2.out⟩
end
section
set_option maxRecDepth 10000
set_option maxHeartbeats 4000000
theorem fits_ok {B w : World} {gt gm n : Nat} {D : DataW Unit} {ve : Value} {L : List Tno} {tu be bh : Nat} (h : Tm4 B w gt gm n D ve L tu be bh) (k : Nat) (hk : k < L.length) (hl : L.length < 20000) (hbad : L[k].bad = false) (x : Hd) (now MB : Nat) (hn : now < 4294967296)
    (HA : ∀ W, Tm4 B W gt gm n D ve L tu be bh → Calls Tryz.prog 196 #[.pointer (some ⟨gt, 0, none⟩), .int .i64 (k : Int)] W fun e w' => e = .returned (.int .u32 (x.bits.toNat : Int)) ∧ Below W.heap.size W w')
    (HM : ∀ W, Tm4 B W gt gm n D ve L tu be bh → Calls Tryz.prog 197 #[.pointer (some ⟨gt, 0, none⟩), .int .i64 (k : Int)] W fun e w' => e = .returned (.int .u32 (MB : Int)) ∧ Below W.heap.size W w')
    (h2 : MB < x.time.toNat) (h3 : x.time.toNat ≤ now + 7200) :
    Calls Tryz.prog 120 #[.pointer (some ⟨gt, 0, none⟩), .agg x.cells.toArray, .int .i64 (k : Int), .int .u32 (now : Int)] w fun e w' => e = .returned (.int .i64 0) ∧ Below w.heap.size w w' := by
  have r1 := heap_alloc_last w (.cells x.cells.toArray 48)
  have R1 := hide r1
  have b1 := (Below.refl w.heap.size w).alloc (Nat.le_refl _) (.cells x.cells.toArray 48)
  have B1 := hide b1
  have X1 := hide (h.next b1)
  obtain ⟨ao, cap, rfl⟩ := h.own.form
  obtain ⟨ge, oe, rfl⟩ := h.own.read.base (by omega)
  have HAx := hide HA
  have HMx := hide HM
  have LB : Hid (∀ W, Tm4 B W gt gm n D (.slice (some ⟨ge, oe, none⟩) L.length cap) L tu be bh → W.cell? ⟨ge, oe + k * 114 + 108, none⟩ = some (.bool false)) := fun W q => by
    have := L[k].cbad (q.own.read.range k hk)
    rw [hbad] at this
    exact this
  have CB : Hid (∀ W, Below (w.alloc (.cells x.cells.toArray 48)).heap.size (w.alloc (.cells x.cells.toArray 48)) W → W.cell? ⟨w.heap.size, 66, none⟩ = some (.int .u32 (x.bits.toNat : Int)) ∧ W.cell? ⟨w.heap.size, 65, none⟩ = some (.int .u32 (x.time.toNat : Int))) := fun W b => by
    have e := (b.block _ (lt_heap r1)).trans r1
    have q1 := x.bits0 (rowAt _ e)
    have q2 := x.time0 (rowAt _ e)
    rw [Nat.zero_add] at q1 q2
    exact ⟨q1, q2⟩
  have x1 : (k : Int) < (L.length : Int) := by omega
  have x2 : (0 : Int) ≤ (k : Int) := by omega
  have x3 : ¬ (20000 : Int) ≤ (L.length : Int) := by omega
  have x3' : ¬ (L.length : Int) ≥ 20000 := by omega
  have TL := x.time.toNat_lt
  have x4 : ((x.time.toNat : Nat) : Int) ≤ (MB : Int) ↔ False := ⟨fun e => by omega, fun e => e.elim⟩
  have x5 : IntKind.u64.wrap ((now : Int) + 7200) = (now : Int) + 7200 := wrapu _ (by omega) (by omega)
  have x6 : ¬ ((x.time.toNat : Nat) : Int) > (now : Int) + 7200 := by omega
  have x6' : ¬ (now : Int) + 7200 < ((x.time.toNat : Nat) : Int) := by omega
  have x7 : IntKind.u64.wrap ((x.time.toNat : Nat) : Int) = ((x.time.toNat : Nat) : Int) := wrapu _ (by omega) (by omega)
  have x8 : IntKind.u64.wrap (now : Int) = (now : Int) := wrapu _ (by omega) (by omega)
  have P5 := hide (And.intro x5 (And.intro x6 (And.intro x6' (And.intro x7 x8))))
  clear x5 x6 x6' x7 x8 TL
  clear b1 r1 h HA HM hbad hl hn h2 h3
  generalize x.bits.toNat = NB at *
  generalize x.time.toNat = NT at *
  generalize x.cells.toArray = C at *
  clear hk
  go_enter Tryz.func120, Tryz.ntmps120
  go_upto_region 1 with ((with_reducible refine at_list ?_); refine wpList_boxA rfl _ rfl C rfl ?_)
  generalize w.alloc (.cells C 48) = W0 at *
  have c1 := X1.out.cells.2.1
  have c2 := LB.out _ X1.out
  go_upto_region 3 with fail
  clear c1 c2
  have DV1 := hide ((Below.refl W0.heap.size W0).drew)
  refine wp_region_held_drew (S := fun W => Below W0.heap.size W0 W) (by kernel_rfl) DV1.out (fun hH => ?_)
  generalize hWd : W0.drew = V1 at *
  clear hWd
  refine wt (i := 0) (v := (.pointer (some ⟨w.heap.size, 66, none⟩))) rfl (.inl ⟨by rfl, fun W _ => by go_simp⟩) hH ?_
  change wpAnyH _ _ _ _ _ _ _ (Act.put _ (some 20) _) _
  simp only [Act.put, s0, s1, s2]
  refine wt (i := 1) (v := (.int .u32 (NB : Int))) rfl (.inl ⟨by rfl, fun W hS => by have c4 := (CB.out W hS).1; go_simp⟩) hH ?_
  change wpAnyH _ _ _ _ _ _ _ (Act.put _ (some 21) _) _
  simp only [Act.put, s0, s1, s2]
  refine wt (i := 2) (v := (.pointer (some ⟨gt, 0, none⟩))) rfl (yl_move (by rfl) _ (by rfl) _ (by rfl)) hH ?_
  change wpAnyH _ _ _ _ _ _ _ (Act.put _ (some 22) _) _
  simp only [Act.put, s0, s1, s2]
  refine wt (i := 3) (v := (.int .i64 (k : Int))) rfl (yl_move (by rfl) _ (by rfl) _ (by rfl)) hH ?_
  change wpAnyH _ _ _ _ _ _ _ (Act.put _ (some 23) _) _
  simp only [Act.put, s0, s1, s2]
  refine wpAnyH_ready (rs := [4]) (by kernel_rfl) (by simp) (AllReadyH.cons rfl (fun K1 hK1 => ?_) AllReadyH.nil)
  go_simp
  refine (HAx.out V1 (X1.out.next DV1.out)).mono ?_
  rintro r V2 ⟨rfl, be⟩
  have DV2 := hide (below_next DV1.out be)
  clear be
  refine hK1.out _ _ DV2.out (fun hH => ?_)
  clear hK1
  refine wt (i := 5) (v := (.bool false)) rfl (.inl ⟨by rfl, fun W _ => by go_simp⟩) hH ?_
  change wpAnyH _ _ _ _ _ _ _ (Act.put _ (some 25) _) _
  simp only [Act.put, s0, s1, s2]
  refine wt (i := 6) (v := (.bool false)) rfl (.inl ⟨by rfl, fun W _ => by go_simp⟩) hH ?_
  change wpAnyH _ _ _ _ _ _ _ (Act.put _ (some 19) _) _
  simp only [Act.put, s0, s1, s2]
  refine wpAnyH_done (by kernel_rfl) ?_ _
  clear hH
  go_upto_region 5 with fail
  have DV3 := hide (below_next DV2.out (Below.refl V2.heap.size V2).drew)
  refine wp_region_held_drew (S := fun W => Below W0.heap.size W0 W) (by kernel_rfl) DV3.out (fun hH => ?_)
  generalize hWd : V2.drew = V3 at *
  clear hWd
  refine wt (i := 0) (v := (.pointer (some ⟨w.heap.size, 65, none⟩))) rfl (.inl ⟨by rfl, fun W _ => by go_simp⟩) hH ?_
  change wpAnyH _ _ _ _ _ _ _ (Act.put _ (some 27) _) _
  simp only [Act.put, s0, s1, s2]
  refine wt (i := 1) (v := (.int .u32 (NT : Int))) rfl (.inl ⟨by rfl, fun W hS => by have c4 := (CB.out W hS).2; go_simp⟩) hH ?_
  change wpAnyH _ _ _ _ _ _ _ (Act.put _ (some 28) _) _
  simp only [Act.put, s0, s1, s2]
  refine wt (i := 2) (v := (.pointer (some ⟨gt, 0, none⟩))) rfl (yl_move (by rfl) _ (by rfl) _ (by rfl)) hH ?_
  change wpAnyH _ _ _ _ _ _ _ (Act.put _ (some 29) _) _
  simp only [Act.put, s0, s1, s2]
  refine wt (i := 3) (v := (.int .i64 (k : Int))) rfl (yl_move (by rfl) _ (by rfl) _ (by rfl)) hH ?_
  change wpAnyH _ _ _ _ _ _ _ (Act.put _ (some 30) _) _
  simp only [Act.put, s0, s1, s2]
  refine wpAnyH_ready (rs := [4]) (by kernel_rfl) (by simp) (AllReadyH.cons rfl (fun K1 hK1 => ?_) AllReadyH.nil)
  go_simp
  refine (HMx.out V3 (X1.out.next DV3.out)).mono ?_
  rintro r V4 ⟨rfl, be⟩
  have DV4 := hide (below_next DV3.out be)
  clear be
  refine hK1.out _ _ DV4.out (fun hH => ?_)
  clear hK1
  refine wt (i := 5) (v := (.bool false)) rfl (.inl ⟨by rfl, fun W _ => by go_simp⟩) hH ?_
  change wpAnyH _ _ _ _ _ _ _ (Act.put _ (some 32) _) _
  simp only [Act.put, s0, s1, s2]
  refine wt (i := 6) (v := (.bool false)) rfl (.inl ⟨by rfl, fun W _ => by go_simp⟩) hH ?_
  change wpAnyH _ _ _ _ _ _ _ (Act.put _ (some 26) _) _
  simp only [Act.put, s0, s1, s2]
  refine wpAnyH_done (by kernel_rfl) ?_ _
  clear hH
  obtain ⟨c5, c6⟩ := CB.out _ DV4.out
  have c1 := (X1.out.next DV4.out).cells.2.1
  obtain ⟨x5, x6, x6', x7, x8⟩ := P5.out
  clear x4 P5
  go_wp2
  go_ret
  exact ⟨rfl, below_next B1.out DV4.out⟩
end
end Go.Proofs.YtcoojkpimbddlaaGreatDoor
