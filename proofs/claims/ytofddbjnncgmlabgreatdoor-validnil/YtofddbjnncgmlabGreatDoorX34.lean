/- Coins that are unspent: their cells; a set without coins; Tip: their contracts. The walk of BlockBases. NewCoins; mayStand of a block of one coinbase: their contracts. -/
import Derived.Test.YtofddbjnncgmlabGreatDoorX31
import Derived.Test.YtofddbjnncgmlabGreatDoorX33
import Derived.Test.YtofddbjnncgmlabGreatDoorX28
import Derived.WideKeyEntry
namespace Go.Proofs.YtofddbjnncgmlabGreatDoor
open Go.RowKit
open Go.Deep
open Go.Maps
set_option linter.unusedVariables false
set_option linter.unusedSimpArgs false
/-- A coin. -/
structure Cn where
  val : UInt64
  lock : ByteArray
  ht : Int
  cb : Bool
def Cn.cells (c : Cn) : List Value := [.int .u64 (c.val.toNat : Int), .string c.lock, .int .i64 c.ht, .bool c.cb]
def Cn.dat (c : Cn) : DataW Unit := .agg [.lit (.int .u64 (c.val.toNat : Int)), .lit (.string c.lock.data.toList), .lit (.int .i64 c.ht), .lit (.bool c.cb)]
/-- How a coin reads. -/
def coE : Value → Option (DataW Unit × List MemPlace)
  | .agg ⟨[.int .u64 a, .string s, .int .i64 h, .bool b]⟩ => some (.agg [.lit (.int .u64 a), .lit (.string s.data.toList), .lit (.int .i64 h), .lit (.bool b)], [])
  | _ => none
theorem coE_mk (c : Cn) : coE (.agg c.cells.toArray) = some (c.dat, []) := rfl
theorem coE_inv {v : Value} {z : DataW Unit × List MemPlace} (h : coE v = some z) : ∃ (a : Int) (s : ByteArray) (hh : Int) (b : Bool), v = .agg #[.int .u64 a, .string s, .int .i64 hh, .bool b] ∧ z = (.agg [.lit (.int .u64 a), .lit (.string s.data.toList), .lit (.int .i64 hh), .lit (.bool b)], []) := by
  unfold coE at h
  split at h
  · exact ⟨_, _, _, _, rfl, (Option.some.inj h).symm⟩
  · cases h
theorem ba_inj {s t : ByteArray} (h : s.data.toList = t.data.toList) : s = t := by
  apply ByteArray.ext
  exact Array.toList_inj.1 h
theorem coE_eq {v : Value} {c : Cn} {ps : List MemPlace} (h : coE v = some (c.dat, ps)) : v = .agg c.cells.toArray := by
  obtain ⟨a, s, hh, b, rfl, e⟩ := coE_inv h
  have e1 := congrArg Prod.fst e
  simp only [Cn.dat, DataW.agg.injEq, List.cons.injEq, DataW.lit.injEq, Lit.int.injEq, Lit.string.injEq, Lit.bool.injEq, and_true, true_and] at e1
  obtain ⟨q1, q2, q3, q4⟩ := e1
  obtain rfl := ba_inj q2
  rw [Cn.cells, q1, q3, q4]
/-- The cells of a set. -/
def coL (tip : List UInt8) (h : Int) (bm bc : Nat) : List Value := cellsL tip ++ [.int .i64 h, .map (some bm), .map (some bc)]
theorem coL_len (tip : List UInt8) (ht : tip.length = 32) (h : Int) (bm bc : Nat) : (coL tip h bm bc).length = 35 := by rw [coL, List.length_append, cellsL_len, ht]; rfl
theorem coL_tip {W : World} {g : Nat} {tip : List UInt8} {h : Int} {bm bc : Nat} (r : W.heap[g]? = some (.cells (coL tip h bm bc).toArray 113 (0, 0))) : W.rangeAt g 0 (cellsL tip) := fun j v hv => by
  have := rowAt _ r j v (by rw [coL, List.getElem?_append_left (List.getElem?_eq_some_iff.1 hv).1]; exact hv)
  exact this
theorem coL_more {W : World} {g : Nat} {tip : List UInt8} (ht : tip.length = 32) {h : Int} {bm bc : Nat} (r : W.heap[g]? = some (.cells (coL tip h bm bc).toArray 113 (0, 0))) : W.cell? ⟨g, 32, none⟩ = some (.int .i64 h) ∧ W.cell? ⟨g, 33, none⟩ = some (.map (some bm)) ∧ W.cell? ⟨g, 34, none⟩ = some (.map (some bc)) := by
  have q : ∀ (j : Nat) (v : Value), ([.int .i64 h, .map (some bm), .map (some bc)] : List Value)[j]? = some v → W.cell? ⟨g, 32 + j, none⟩ = some v := fun j v hv => by
    have := rowAt _ r (32 + j) v (by rw [coL, List.getElem?_append_right (by rw [cellsL_len, ht]; omega), cellsL_len, ht, show 32 + j - 32 = j by omega]; exact hv)
    rwa [Nat.zero_add] at this
  exact ⟨q 0 _ rfl, q 1 _ rfl, q 2 _ rfl⟩
/-- A set of coins in memory; all made behind B. -/
structure Cst (B W : World) (gc bm bc n m : Nat) (tip : List UInt8) (h : Int) (D E : DataW Unit) : Prop where
  row : W.heap[gc]? = some (.cells (coL tip h bm bc).toArray 113 (0, 0))
  mp : W.ownsMap Tryz.prog 76 coE bm n D
  ct : OmI W bc m E
  bel : Below B.heap.size B W
  bg : B.heap.size ≤ gc
  b1 : B.heap.size ≤ bm
  b2 : B.heap.size ≤ bc
  n1 : gc ≠ bm
  n2 : gc ≠ bc
  n3 : bm ≠ bc
  ht : tip.length = 32
section
variable {A B W W' : World} {gc bm bc n m : Nat} {tip : List UInt8} {h : Int} {D E : DataW Unit}
theorem own_block {b n : Nat} {k : TypeId} {R : Value → Option (DataW Unit × List MemPlace)} {D : DataW Unit} (o : W.ownsMap Tryz.prog k R b n D) (e : W'.heap[b]? = W.heap[b]?) : W'.ownsMap Tryz.prog k R b n D := by
  obtain ⟨es, clock, hb, F, hs, rfl⟩ := o
  exact ⟨es, clock, e.trans hb, F, hs, rfl⟩
theorem Cst.next (c : Cst B W gc bm bc n m tip h D E) (b : Below W.heap.size W W') : Cst B W' gc bm bc n m tip h D E :=
  ⟨(b.block _ (lt_heap c.row)).trans c.row, own_block c.mp (b.block _ c.mp.lt), c.ct.of_block (b.block _ c.ct.lt), below_next c.bel b, c.bg, c.b1, c.b2, c.n1, c.n2, c.n3, c.ht⟩
theorem Cst.base (c : Cst B W gc bm bc n m tip h D E) (b : Below A.heap.size A B) : Cst A W gc bm bc n m tip h D E :=
  ⟨c.row, c.mp, c.ct, below_next b c.bel, Nat.le_trans b.size c.bg, Nat.le_trans b.size c.b1, Nat.le_trans b.size c.b2, c.n1, c.n2, c.n3, c.ht⟩
end
section
variable {B W : World} {gc bm bc n m : Nat} {tip : List UInt8} {h : Int} {D E : DataW Unit}
theorem Cst.setRow (c : Cst B W gc bm bc n m tip h D E) {g : Nat} (n1 : g ≠ gc) (n2 : g ≠ bm) (n3 : g ≠ bc) (hB : B.heap.size ≤ g) (x : Array Value) : Cst B (W.setRow g x) gc bm bc n m tip h D E :=
  ⟨(setRow_other _ _ _ _ (by omega)).trans c.row, own_block c.mp (setRow_other _ _ _ _ (by omega)), c.ct.of_block (setRow_other _ _ _ _ (by omega)), below_setRow c.bel hB _, c.bg, c.b1, c.b2, c.n1, c.n2, c.n3, c.ht⟩
end
theorem bldCo (tip : List UInt8) (ht : tip.length = 32) (h : Int) (bm bc : Nat) (W : World) : (Instr.build 113 #[(0, .agg (hc tip)), (1, .int .i64 h), (2, .map (some bm)), (3, .map (some bc))]).run Tryz.prog W = .ok (.agg (coL tip h bm bc).toArray) W := by
  obtain ⟨_, _, _, _, _, _, _, _, _, _, _, _, _, _, _, _, _, _, _, _, _, _, _, _, _, _, _, _, _, _, _, _, rfl⟩ := id32' tip ht
  kernel_rfl
theorem fieldBk16 (h : Hd) (v : Value) (W : World) : (Instr.field 30 (.agg (bkA h v)) 0).run Tryz.prog W = .ok (.agg h.cells.toArray) W := by
  obtain ⟨ve, p, r, t, b, o, hp, hr⟩ := h
  obtain ⟨_, _, _, _, _, _, _, _, _, _, _, _, _, _, _, _, _, _, _, _, _, _, _, _, _, _, _, _, _, _, _, _, rfl⟩ := id32' p hp
  obtain ⟨_, _, _, _, _, _, _, _, _, _, _, _, _, _, _, _, _, _, _, _, _, _, _, _, _, _, _, _, _, _, _, _, rfl⟩ := id32' r hr
  kernel_rfl
theorem wpFieldBk16 {w : World} {ops : Array Oper} {rest : List Oper} {o : Oper} {a : Act} {Q : Exit → Act → World → Prop} (x : Operand) (ho : o.op = .field 30 x 0) (h0 : Hd) (v : Value) (hx : a.eval x = .agg (bkA h0 v)) (hw : Region.wanted o (yielded ops a.tmps) = true)
    (h : wpList Tryz.prog ops Q rest (a.put o.dst (.agg h0.cells.toArray)) w) : wpList Tryz.prog ops Q (o :: rest) a w := by
  refine wpList_step fun K hK => ?_
  rw [if_pos hw]
  unfold Oper.wp execOp
  simp only [ho, hx, Sem.run_bind, fieldBk16, Result.andThen_ok, Sem.run_pure]
  exact hK _ _ h
section
set_option maxRecDepth 10000
set_option maxHeartbeats 4000000
theorem noCoins_any (tip : List UInt8) (ht : tip.length = 32) (h : Int) (w : World) : Calls Tryz.prog 25 #[.agg (hc tip), .int .i64 h] w fun e w' => ∃ gc bm bc, e = .returned (.pointer (some ⟨gc, 0, none⟩)) ∧ Cst w w' gc bm bc 0 0 tip h (.map []) (.map []) := by
  have CZ := hide (show (hc tip).size = 32 by rw [hc_size, ht])
  have R0 := hide (heap_alloc_last w (.cells (hc tip) 25))
  have B0 := hide ((Below.refl w.heap.size w).alloc (Nat.le_refl _) (.cells (hc tip) 25))
  have HB := hide (fun bm bc W => bldCo tip ht h bm bc W)
  have HT := hide ht
  clear ht
  have mk := make_none 110 76 72 Tryz.underlying110
  have mk2 := make_none 111 25 3 Tryz.underlying111
  have CD : ∀ bm bc, ∃ L, Hid ((coL tip h bm bc) = L) := fun bm bc => ⟨_, rfl⟩
  generalize hc tip = C at *
  go_enter Tryz.func25, Tryz.ntmps25
  go_upto_region 1 with ((with_reducible refine at_list ?_); refine wpList_boxA rfl _ rfl C rfl ?_)
  generalize w.alloc (.cells C 25) = W0 at *
  have O1 := hide (World.ownsMap_made (H := Unit) W0 Tryz.prog 76 coE)
  have O2 := hide (World.ownsMap_made (H := Unit) (W0.alloc (.map #[] 0)) Tryz.prog 25 (plainElem Tryz.prog 3))
  have s1 : (W0.alloc (.map #[] 0)).heap.size = W0.heap.size + 1 := by simp
  have B1 := hide ((Below.refl W0.heap.size W0).alloc (Nat.le_refl _) (.map #[] 0))
  have B2 := hide (B1.out.alloc (by rw [s1]; omega) (.map #[] 0))
  rw [s1] at O2
  go_wp2_with ((with_reducible refine at_list ?_); first | refine wpList_loadS A25 _ rfl w.heap.size rfl C CZ.out 25 R0.out (by rfl) ?_ | refine wpList_bldX rfl _ rfl #[(0, .agg C), (1, .int .i64 h), (2, .map (some W0.heap.size)), (3, .map (some (W0.heap.size + 1)))] (coL tip h W0.heap.size (W0.heap.size + 1)).toArray (by simp only [List.map_toArray, List.map_cons, List.map_nil]; rfl) (HB.out _ _) ?_ | refine wpList_boxA rfl _ rfl (coL tip h W0.heap.size (W0.heap.size + 1)).toArray rfl ?_)
  have s2 : ((W0.alloc (.map #[] 0)).alloc (.map #[] 0)).heap.size = W0.heap.size + 1 + 1 := by simp
  have O1b := hide (own_block O1.out (Below.heap_alloc (W0.alloc (.map #[] 0)) (.map #[] 0) _ O1.out.lt))
  clear O1 B1 s1 mk mk2 HB CD
  have hw0 := B0.out.size
  have hw1 := lt_heap R0.out
  generalize (W0.alloc (.map #[] 0)).alloc (.map #[] 0) = W2 at *
  go_ret
  refine ⟨_, _, _, rfl, ⟨by rw [← s2]; exact heap_alloc_last W2 _, own_block O1b.out (Below.heap_alloc _ _ _ O1b.out.lt), O2.out.alloc _, (below_next B0.out B2.out).alloc (by omega) _, by omega, by omega, by omega, by omega, by omega, by omega, HT.out⟩⟩
theorem tip_any {B w : World} {gc bm bc n m : Nat} {tip : List UInt8} {h : Int} {D E : DataW Unit} (c : Cst B w gc bm bc n m tip h D E) : Calls Tryz.prog 12 #[.pointer (some ⟨gc, 0, none⟩)] w fun e w' => e = .returned (.tuple #[.agg (hc tip), .int .i64 h]) ∧ Below w.heap.size w w' := by
  have ZZ := hide (And.intro (show (hc zeros).size = 32 by rw [hc_size, zeros_len]) (hc_one zeros))
  have CZ := hide (And.intro (show (hc tip).size = 32 by rw [hc_size, c.ht]) (hc_one tip))
  have b1 := (Below.refl w.heap.size w).alloc (Nat.le_refl _) (.cells (hc zeros) 25)
  have C1 := hide (c.next b1)
  have R1 := hide (heap_alloc_last w (.cells (hc zeros) 25))
  have B1 := hide b1
  have HT := hide c.ht
  have HX : Hid (w.heap.size ≠ gc ∧ w.heap.size ≠ bm ∧ w.heap.size ≠ bc ∧ B.heap.size ≤ w.heap.size) := by
    have l1 := lt_heap c.row
    have l2 := c.mp.lt
    have l3 := c.ct.lt
    exact ⟨by omega, by omega, by omega, c.bel.size⟩
  clear b1 c
  go_enter Tryz.func12, Tryz.ntmps12
  go_upto_region 3 with ((with_reducible refine at_list ?_); refine wpList_allocA A25 rfl rfl ?_)
  have DV := hide (Below.refl (w.alloc (.cells (hc zeros) 25)).heap.size (w.alloc (.cells (hc zeros) 25))).drew
  have R2 := hide ((DV.out.block _ (lt_heap R1.out)).trans R1.out)
  have C2 := hide (C1.out.next DV.out)
  have B2 := hide (below_next B1.out DV.out)
  refine wp_region_held_drew (S := fun W => Cst B W gc bm bc n m tip h D E) (by kernel_rfl) C2.out (fun hH => ?_)
  generalize (w.alloc (.cells (hc zeros) 25)).drew = V1 at *
  have GE := hide (show w.heap.size ≠ gc ∧ w.heap.size ≠ bm ∧ w.heap.size ≠ bc ∧ B.heap.size ≤ w.heap.size from HX.out)
  refine wpAnyH_take (i := 0) (v := (.pointer (some ⟨gc, 0, none⟩))) rfl (by kernel_rfl) (by kernel_rfl) (by kernel_rfl) (fun _ _ _ h => h) (yl_move (by rfl) _ (by rfl) _ (by rfl)) hH ?_
  change wpAnyH _ _ _ _ _ _ _ (Act.put _ (some 7) _) _
  simp only [Act.put, List.setIfInBounds_toArray, List.set_cons_zero, List.set_cons_succ]
  refine wpAnyH_take (i := 1) (v := (.pointer (some ⟨gc, 0, none⟩))) rfl (by kernel_rfl) (by kernel_rfl) (by kernel_rfl) (fun _ _ _ h => h) (.inl ⟨by rfl, fun W _ => by go_simp⟩) hH ?_
  change wpAnyH _ _ _ _ _ _ _ (Act.put _ (some 8) _) _
  simp only [Act.put, List.setIfInBounds_toArray, List.set_cons_zero, List.set_cons_succ]
  refine wpAnyH_take (i := 2) (v := (.pointer (some ⟨gc, 0, none⟩))) rfl (by kernel_rfl) (by kernel_rfl) (by kernel_rfl) (fun _ _ _ h => h) (.inl ⟨by rfl, fun W _ => by go_simp⟩) hH ?_
  change wpAnyH _ _ _ _ _ _ _ (Act.put _ (some 9) _) _
  simp only [Act.put, List.setIfInBounds_toArray, List.set_cons_zero, List.set_cons_succ]
  refine wpAnyH_take (i := 3) (v := (.agg (hc tip))) rfl (by kernel_rfl) (by kernel_rfl) (by kernel_rfl) (fun _ _ _ h => h) (yl_load (by rfl) _ (by rfl) _ (hc tip) (by rfl) (fun W hS => ld_hash tip HT.out (coL_tip hS.row))) hH ?_
  change wpAnyH _ _ _ _ _ _ _ (Act.put _ (some 10) _) _
  simp only [Act.put, List.setIfInBounds_toArray, List.set_cons_zero, List.set_cons_succ]
  refine wpAnyH_take (i := 4) (v := (.pointer (some ⟨gc, 0, none⟩))) rfl (by kernel_rfl) (by kernel_rfl) (by kernel_rfl) (fun _ _ _ h => h) (yl_move (by rfl) _ (by rfl) _ (by rfl)) hH ?_
  change wpAnyH _ _ _ _ _ _ _ (Act.put _ (some 11) _) _
  simp only [Act.put, List.setIfInBounds_toArray, List.set_cons_zero, List.set_cons_succ]
  refine wpAnyH_take (i := 5) (v := (.pointer (some ⟨gc, 0, none⟩))) rfl (by kernel_rfl) (by kernel_rfl) (by kernel_rfl) (fun _ _ _ h => h) (.inl ⟨by rfl, fun W _ => by go_simp⟩) hH ?_
  change wpAnyH _ _ _ _ _ _ _ (Act.put _ (some 12) _) _
  simp only [Act.put, List.setIfInBounds_toArray, List.set_cons_zero, List.set_cons_succ]
  refine wpAnyH_take (i := 6) (v := (.pointer (some ⟨gc, 32, none⟩))) rfl (by kernel_rfl) (by kernel_rfl) (by kernel_rfl) (fun _ _ _ h => h) (.inl ⟨by rfl, fun W _ => by go_simp⟩) hH ?_
  change wpAnyH _ _ _ _ _ _ _ (Act.put _ (some 13) _) _
  simp only [Act.put, List.setIfInBounds_toArray, List.set_cons_zero, List.set_cons_succ]
  refine wpAnyH_take (i := 7) (v := (.int .i64 h)) rfl (by kernel_rfl) (by kernel_rfl) (by kernel_rfl) (fun _ _ _ h => h) (.inl ⟨by rfl, fun W hS => by have c4 := (coL_more HT.out hS.row).1; go_simp⟩) hH ?_
  change wpAnyH _ _ _ _ _ _ _ (Act.put _ (some 14) _) _
  simp only [Act.put, List.setIfInBounds_toArray, List.set_cons_zero, List.set_cons_succ]
  refine wpAnyH_ready (rs := [8]) (by kernel_rfl) (by simp) (AllReadyH.cons rfl (fun K1 hK1 => ?_) AllReadyH.nil)
  refine stepStoreA A25 (by rfl) _ _ (by rfl) w.heap.size (hc tip) CZ.out.1 CZ.out.2 (by rfl) (by rfl) (hc zeros) ZZ.out.1 _ R2.out ?_
  refine hK1.out _ _ (C2.out.setRow GE.out.1 GE.out.2.1 GE.out.2.2.1 GE.out.2.2.2 _) (fun hH => ?_)
  clear hK1
  change wpAnyH _ _ _ _ _ _ _ (Act.put _ none _) _
  simp only [Act.put]
  refine wpAnyH_take (i := 9) (v := (.int .i64 h)) rfl (by kernel_rfl) (by kernel_rfl) (by kernel_rfl) (fun _ _ _ h => h) (.inl ⟨by rfl, fun W _ => by go_simp⟩) hH ?_
  change wpAnyH _ _ _ _ _ _ _ (Act.put _ (some 3) _) _
  simp only [Act.put, List.setIfInBounds_toArray, List.set_cons_zero, List.set_cons_succ]
  refine wpAnyH_done (by kernel_rfl) ?_ _
  go_wp2
  exact bodyPost_ret (v := .tuple #[.agg (hc tip), .int .i64 h]) (resA2K A25 Tryz.results12 _ _ w.heap.size 25 _ CZ.out.1 rfl (setRow_heap _ _ _ _ _ _ R2.out) _ rfl) rfl ⟨rfl, below_setRow B2.out (Nat.le_refl _) _⟩
end
end Go.Proofs.YtofddbjnncgmlabGreatDoor
namespace Go.Proofs.YtofddbjnncgmlabGreatDoor
open Go.RowKit
open Go.Deep
set_option linter.unusedVariables false
/-- What comes in: a height, an extra, outputs and a transaction. -/
def bsL (n : Int) (x : ByteArray) (v : Value) (q : Tq) : List Value := [.int .i64 n, .string x, v] ++ q.cells
theorem bs_tx {W : World} {g : Nat} {n : Int} {x : ByteArray} {v : Value} {q : Tq} (h : W.rangeAt g 0 (bsL n x v q)) : W.rangeAt g 3 q.cells := fun j u hu => by
  have := h (3 + j) u (by rw [bsL, List.getElem?_append_right (by simp)]; simpa using hu)
  rwa [Nat.zero_add] at this
theorem leN_lowB (k n : Nat) (h : n < 256 ^ k) : leN (lowL n k) = n := by
  induction k generalizing n with
  | zero => simp [lowL, leN] at *; omega
  | succ k ih =>
    rw [lowL, leN, ih (n / 256) (by rw [Nat.pow_succ] at h; omega), UInt8.toNat_ofNat']
    omega
theorem cut4 (n : Nat) (x : ByteArray) : ((txt (lowL n 4 ++ x.data.toList)).extract 0 4).data.toList = lowL n 4 := by
  have : ((txt (lowL n 4 ++ x.data.toList)).extract 0 4).data.toList = ((lowL n 4 ++ x.data.toList).drop 0).take 4 := by
    simp [ByteArray.data_extract, txt, List.extract_eq_take_drop]
  rw [this, List.drop_zero, List.take_append_of_le_length (by rw [lowL_len]; omega), List.take_of_length_le (by rw [lowL_len]; omega)]
theorem cbT_base (n : Nat) (x : ByteArray) (L : List Tu) : (cbT n x L).base = true := by
  rw [Tm.base_one _ rfl]
  exact decide_eq_true rfl
theorem cbT_hgt (n : Nat) (hn : n ≤ 2147483647) (x : ByteArray) (L : List Tu) : (cbT n x L).hgt = (n, true) := by
  have e1 : hgI (cbT n x L).ins = hgK (txt (lowL n 4 ++ x.data.toList)) := rfl
  rw [Tm.hgt, if_pos (cbT_base n x L), e1, hgK, cut4, leN_lowB 4 n (by omega), if_pos ⟨by rw [txt_sz, List.length_append, lowL_len]; omega, hn⟩]
theorem txt_add (n : Nat) (x : ByteArray) : (⟨(lowL n 4).toArray⟩ : ByteArray) ++ x = txt (lowL n 4 ++ x.data.toList) := by
  apply ByteArray.ext
  simp [txt]
/-- What Coinbase makes, whatever comes in. -/
def cbOk (n : Int) (x : ByteArray) : Prop := 0 ≤ n ∧ n ≤ 2147483647 ∧ x.size ≤ 96
section
set_option maxRecDepth 10000
set_option maxHeartbeats 8000000
theorem coinbase_any (n : Int) (x : ByteArray) (v : Value) (L : List Tu) (hz : L.length * 24 ≤ 140737488355328) : ∃ (cm : Tm) (er : Int), (cbOk n x → cm = cbT n.toNat x L ∧ er = 0) ∧ (¬ cbOk n x → cm = zT ∧ er = 1) ∧ ∀ W, LX KO W v L → Calls Tryz.prog 28 #[.int .i64 n, .string x, v] W fun e w' => ∃ ai ci ao co, e = .returned (.tuple #[.agg (cm.cells ai ci ao co), .int .i64 er]) ∧ LT w' cm ai ci ao co ∧ Below W.heap.size W w' := by
  by_cases h : cbOk n x
  · obtain ⟨h0, h1, h2⟩ := h
    obtain ⟨k, rfl⟩ : ∃ k : Nat, n = (k : Int) := ⟨n.toNat, by omega⟩
    exact ⟨cbT k x L, 0, fun _ => ⟨rfl, rfl⟩, fun h => absurd ⟨h0, h1, h2⟩ h, fun W l => cbase_yes k x v L W (by omega) h2 l hz⟩
  · refine ⟨zT, 1, fun h' => absurd h' h, fun _ => ⟨rfl, rfl⟩, fun W l => (cbase_no n x v W ?_).mono fun e w' ⟨h1, h2⟩ => ⟨none, 0, none, 0, h1, ⟨LX.nil _, LX.nil _⟩, h2⟩⟩
    unfold cbOk at h
    omega
end
end Go.Proofs.YtofddbjnncgmlabGreatDoor
namespace Go.Proofs.YtofddbjnncgmlabGreatDoor
open Go.RowKit
open Go.Deep
open Go.Maps
set_option linter.unusedVariables false
set_option linter.unusedSimpArgs false
/-- A block of one coinbase, of a height, that may be by itself. -/
structure Ok1 (h : Hd) (x : Tq) (k : Nat) : Prop where
  z : (bkB h [x]).length ≤ 8192
  r : rtL (idsL [x]) = h.root
  m : muL (idsL [x]) = false
  b : x.m.base = true
  c : x.m.chk = 0
  g : x.m.hgt = (k, true)
  key : ∀ y ∈ x.m.ins, y.key.size ≤ maxLen
section
variable {S : World → Prop} {ops : Array Oper} {o : Oper} {a : Act}
theorem yl_neq16 (hw : Region.wanted o (yielded ops a.tmps) = true) (t : TypeId) (x y : Operand) (t2 : TypeId) (ho : o.op = .binOp .neq t x y t2) (c d : Array Value) (hx : a.eval x = .agg c) (hy : a.eval y = .agg d) (hg : Tryz.prog.eqGuardType Tryz.prog.depth t = false)
    (v : Bool) (hr : ∀ W, (Op.equalIn 10000 t (.agg c) (.agg d)).run Tryz.prog W = .ok v W) : YieldsIf Tryz.prog ops S o (.bool (!v)) a :=
  .inl ⟨hw, fun W _ => by
    unfold execOp
    simp only [ho, hx, hy, Sem.run_bind, run_eqGuard_agg (P := Tryz.prog) W .neq t x y c d hg, run_neq_struct, hr W, Result.andThen_ok, Sem.run_pure]⟩
end
section
set_option maxRecDepth 10000
set_option maxHeartbeats 4000000
theorem newCoins_any (w : World) (hK : Kg w) : Calls Tryz.prog 5 #[] w fun e w' => ∃ gc bm bc, e = .returned (.pointer (some ⟨gc, 0, none⟩)) ∧ Cst w w' gc bm bc 0 0 (gH.at 1).id 0 (.map []) (.map []) := by
  have HG : Hid (∀ W, Kg W → Calls Tryz.prog 27 #[] W fun e w' => ∃ ao cap, e = .returned (.agg (bkA (gH.at 1) (.slice ao 1 cap))) ∧ Below W.heap.size W w') := fun W q => (genesis_any W q).mono (by rintro e w' ⟨ao, cap, y, rfl, _, _, be⟩; exact ⟨ao, cap, rfl, be⟩)
  have HI : Hid (∀ W, Kg W → Calls Tryz.prog 26 #[.agg (gH.at 1).cells.toArray] W fun e w' => e = .returned (.agg (hc (gH.at 1).id)) ∧ Below W.heap.size W w') := fun W q => hid_any (gH.at 1) W q
  have HN := hide (fun W => noCoins_any (gH.at 1).id (Hd.id_len _) 0 W)
  have KS : Hid (∀ W, Below w.heap.size w W → Kg W) := fun W b => hK.next b
  have BR := hide (Below.refl w.heap.size w)
  clear hK
  generalize (gH.at 1).id = ID at *
  generalize gH.at 1 = HH at *
  generalize hCI : hc ID = CI at *
  clear hCI
  go_enter Tryz.func5, Tryz.ntmps5
  go_wp2_with (first | (go_at_call 27; refine (HG.out _ (KS.out _ BR.out)).mono ?_; rintro e W1 ⟨ao, cap, rfl, be⟩; have D1 := hide be; clear be) | (go_at_call 26; refine (HI.out _ (KS.out _ D1.out)).mono ?_; rintro e W2 ⟨rfl, be⟩; have D2 := hide (below_next D1.out be); clear be) | (go_at_call 25; refine (HN.out _).mono ?_; rintro e W3 ⟨gc, bm, bc, rfl, cs⟩; have C3 := hide (cs.base D2.out); clear cs) | ((with_reducible refine at_list ?_); refine wpFieldBk16 _ rfl HH (.slice ao 1 cap) rfl (by rfl) ?_))
  go_ret
  exact ⟨gc, bm, bc, rfl, C3.out⟩
theorem mayStand_yes {B w : World} {gc bm bc n m : Nat} {h : Hd} {k : Nat} {D E : DataW Unit} (c : Cst B w gc bm bc n m h.prev (k : Int) D E) (hk : k < 2147483647) (v : Value) (x : Tq) (hL : LQ w v [x]) (ok : Ok1 h x (k + 1)) (hK : Kg w) : Calls Tryz.prog 81 #[.pointer (some ⟨gc, 0, none⟩), .agg (bkA h v), .int .i64 ((k : Int) + 1)] w fun e w' => e = .returned (.int .i64 0) ∧ Below w.heap.size w w' := by
  obtain ⟨ao, cap, rfl⟩ := hL.l.form
  obtain ⟨ga, oa, rfl⟩ := hL.l.base (by simp)
  have b1 := (Below.refl w.heap.size w).alloc (Nat.le_refl _) (.cells (bkA h (.slice (some ⟨ga, oa, none⟩) [x].length cap)) 30)
  have R1 := hide (heap_alloc_last w (.cells (bkA h (.slice (some ⟨ga, oa, none⟩) [x].length cap)) 30))
  have B1 := hide b1
  have HX := hide (fun W (b : Below (w.alloc (.cells (bkA h (.slice (some ⟨ga, oa, none⟩) [x].length cap)) 30)).heap.size (w.alloc (.cells (bkA h (.slice (some ⟨ga, oa, none⟩) [x].length cap)) 30)) W) => And.intro (hL.below (below_next b1 b)) (And.intro (c.next (below_next b1 b)) (And.intro (hK.next (below_next b1 b)) ((b.block _ (lt_heap R1.out)).trans R1.out))))
  have HC := hide (fun W l q => checkV_one h (.slice (some ⟨ga, oa, none⟩) [x].length cap) x W l ok.z ok.r ok.m ok.b ok.c q)
  have HH : Hid (∀ W, x.can W → Calls Tryz.prog 117 #[.agg x.arr] W fun e w' => e = .returned (.tuple #[.int .i64 ((k : Int) + 1), .bool true]) ∧ Below W.heap.size W w') := fun W q => by
    have := height_any x.m x.ai x.ci x.ao x.co W q.1 q.2 ok.key
    rw [ok.g] at this
    exact this
  have RH : Hid (∀ W : World, W.heap[w.heap.size]? = some (.cells (bkA h (.slice (some ⟨ga, oa, none⟩) [x].length cap)) 30 (0, 0)) → W.rangeAt w.heap.size 1 (cellsL h.prev) ∧ W.cell? ⟨w.heap.size, 68, none⟩ = some (.slice (some ⟨ga, oa, none⟩) [x].length cap)) := fun W e => ⟨by have := h.prevR (bkA_head e); rwa [Nat.zero_add] at this, bkA_txs e⟩
  have HP := hide h.hp
  have EQ : Hid (∀ W, (Op.equalIn 10000 25 (.agg (hc h.prev)) (.agg (hc h.prev))).run Tryz.prog W = .ok true W) := fun W => by
    have := eqC_bytes h.prev h.prev 32 h.hp h.hp 25 Tryz.underlying25 9998 W
    rwa [beq_self_eq_true] at this
  have EG : Hid (Tryz.prog.eqGuardType Tryz.prog.depth 25 = false) := by show _ = _; kernel_rfl
  have CN := hide (fun W (l : LQ W (.slice (some ⟨ga, oa, none⟩) [x].length cap) [x]) => And.intro (show W.rangeAt ga (oa + 0 * 4) x.cells from l.l.range 0 (by simp)) (l.t x (by simp)))
  have BZ : Hid ((bkA h (.slice (some ⟨ga, oa, none⟩) [x].length cap)).size = 69) := bkA_size _ _
  have e1 : IntKind.i64.wrap ((k : Int) + 1) = (k : Int) + 1 := wrapI _ (by omega) (by omega)
  clear b1 hL hK ok c
  rw [show [x].length = 1 from rfl] at *
  generalize h.prev = PV at *
  generalize bkA h (.slice (some ⟨ga, oa, none⟩) 1 cap) = C at *
  go_enter Tryz.func81, Tryz.ntmps81
  go_upto_region 1 with ((with_reducible refine at_list ?_); refine wpList_boxA rfl _ rfl C rfl ?_)
  generalize w.alloc (.cells C 30) = W0 at *
  go_upto_region 3 with fail
  have DV := hide (Below.refl W0.heap.size W0).drew
  refine wp_region_held_drew (S := fun W => Below W0.heap.size W0 W) (by kernel_rfl) DV.out (fun hH => ?_)
  generalize W0.drew = V1 at *
  refine wpAnyH_take (i := 0) (v := (.pointer (some ⟨w.heap.size, 0, none⟩))) rfl (by kernel_rfl) (by kernel_rfl) (by kernel_rfl) (fun _ _ _ h => h) (.inl ⟨by rfl, fun W _ => by go_simp⟩) hH ?_
  change wpAnyH _ _ _ _ _ _ _ (Act.put _ (some 12) _) _
  simp only [Act.put, List.setIfInBounds_toArray, List.set_cons_zero, List.set_cons_succ]
  refine wpAnyH_take (i := 1) (v := (.pointer (some ⟨w.heap.size, 1, none⟩))) rfl (by kernel_rfl) (by kernel_rfl) (by kernel_rfl) (fun _ _ _ h => h) (.inl ⟨by rfl, fun W _ => by go_simp⟩) hH ?_
  change wpAnyH _ _ _ _ _ _ _ (Act.put _ (some 13) _) _
  simp only [Act.put, List.setIfInBounds_toArray, List.set_cons_zero, List.set_cons_succ]
  refine wpAnyH_take (i := 2) (v := (.agg (hc PV))) rfl (by kernel_rfl) (by kernel_rfl) (by kernel_rfl) (fun _ _ _ h => h) (yl_load (by rfl) _ (by rfl) _ (hc PV) (by rfl) (fun W hS => ld_hash PV HP.out (RH.out W (HX.out W hS).2.2.2).1)) hH ?_
  change wpAnyH _ _ _ _ _ _ _ (Act.put _ (some 14) _) _
  simp only [Act.put, List.setIfInBounds_toArray, List.set_cons_zero, List.set_cons_succ]
  refine wpAnyH_take (i := 3) (v := (.pointer (some ⟨gc, 0, none⟩))) rfl (by kernel_rfl) (by kernel_rfl) (by kernel_rfl) (fun _ _ _ h => h) (yl_move (by rfl) _ (by rfl) _ (by rfl)) hH ?_
  change wpAnyH _ _ _ _ _ _ _ (Act.put _ (some 15) _) _
  simp only [Act.put, List.setIfInBounds_toArray, List.set_cons_zero, List.set_cons_succ]
  refine wpAnyH_take (i := 4) (v := (.pointer (some ⟨gc, 0, none⟩))) rfl (by kernel_rfl) (by kernel_rfl) (by kernel_rfl) (fun _ _ _ h => h) (.inl ⟨by rfl, fun W _ => by go_simp⟩) hH ?_
  change wpAnyH _ _ _ _ _ _ _ (Act.put _ (some 16) _) _
  simp only [Act.put, List.setIfInBounds_toArray, List.set_cons_zero, List.set_cons_succ]
  refine wpAnyH_take (i := 5) (v := (.pointer (some ⟨gc, 0, none⟩))) rfl (by kernel_rfl) (by kernel_rfl) (by kernel_rfl) (fun _ _ _ h => h) (.inl ⟨by rfl, fun W _ => by go_simp⟩) hH ?_
  change wpAnyH _ _ _ _ _ _ _ (Act.put _ (some 17) _) _
  simp only [Act.put, List.setIfInBounds_toArray, List.set_cons_zero, List.set_cons_succ]
  refine wpAnyH_take (i := 6) (v := (.agg (hc PV))) rfl (by kernel_rfl) (by kernel_rfl) (by kernel_rfl) (fun _ _ _ h => h) (yl_load (by rfl) _ (by rfl) _ (hc PV) (by rfl) (fun W hS => ld_hash PV HP.out (coL_tip (HX.out W hS).2.1.row))) hH ?_
  change wpAnyH _ _ _ _ _ _ _ (Act.put _ (some 18) _) _
  simp only [Act.put, List.setIfInBounds_toArray, List.set_cons_zero, List.set_cons_succ]
  refine wpAnyH_take (i := 7) (v := (.bool (!true))) rfl (by kernel_rfl) (by kernel_rfl) (by kernel_rfl) (fun _ _ _ h => h) (yl_neq16 (by rfl) _ _ _ _ (by rfl) (hc PV) (hc PV) (by rfl) (by rfl) EG.out true EQ.out) hH ?_
  change wpAnyH _ _ _ _ _ _ _ (Act.put _ (some 19) _) _
  simp only [Act.put, List.setIfInBounds_toArray, List.set_cons_zero, List.set_cons_succ]
  refine wpAnyH_take (i := 8) (v := (.bool (!true))) rfl (by kernel_rfl) (by kernel_rfl) (by kernel_rfl) (fun _ _ _ h => h) (yl_move (by rfl) _ (by rfl) _ (by rfl)) hH ?_
  change wpAnyH _ _ _ _ _ _ _ (Act.put _ (some 20) _) _
  simp only [Act.put, List.setIfInBounds_toArray, List.set_cons_zero, List.set_cons_succ]
  refine wpAnyH_take (i := 9) (v := (.int .i64 ((k : Int) + 1))) rfl (by kernel_rfl) (by kernel_rfl) (by kernel_rfl) (fun _ _ _ h => h) (yl_move (by rfl) _ (by rfl) _ (by rfl)) hH ?_
  change wpAnyH _ _ _ _ _ _ _ (Act.put _ (some 21) _) _
  simp only [Act.put, List.setIfInBounds_toArray, List.set_cons_zero, List.set_cons_succ]
  refine wpAnyH_take (i := 10) (v := (.pointer (some ⟨gc, 0, none⟩))) rfl (by kernel_rfl) (by kernel_rfl) (by kernel_rfl) (fun _ _ _ h => h) (yl_move (by rfl) _ (by rfl) _ (by rfl)) hH ?_
  change wpAnyH _ _ _ _ _ _ _ (Act.put _ (some 22) _) _
  simp only [Act.put, List.setIfInBounds_toArray, List.set_cons_zero, List.set_cons_succ]
  refine wpAnyH_take (i := 11) (v := (.pointer (some ⟨gc, 0, none⟩))) rfl (by kernel_rfl) (by kernel_rfl) (by kernel_rfl) (fun _ _ _ h => h) (.inl ⟨by rfl, fun W _ => by go_simp⟩) hH ?_
  change wpAnyH _ _ _ _ _ _ _ (Act.put _ (some 23) _) _
  simp only [Act.put, List.setIfInBounds_toArray, List.set_cons_zero, List.set_cons_succ]
  refine wpAnyH_take (i := 12) (v := (.pointer (some ⟨gc, 32, none⟩))) rfl (by kernel_rfl) (by kernel_rfl) (by kernel_rfl) (fun _ _ _ h => h) (.inl ⟨by rfl, fun W _ => by go_simp⟩) hH ?_
  change wpAnyH _ _ _ _ _ _ _ (Act.put _ (some 24) _) _
  simp only [Act.put, List.setIfInBounds_toArray, List.set_cons_zero, List.set_cons_succ]
  refine wpAnyH_take (i := 13) (v := (.int .i64 (k : Int))) rfl (by kernel_rfl) (by kernel_rfl) (by kernel_rfl) (fun _ _ _ h => h) (.inl ⟨by rfl, fun W hS => by have c4 := (coL_more HP.out (HX.out W hS).2.1.row).1; go_simp⟩) hH ?_
  change wpAnyH _ _ _ _ _ _ _ (Act.put _ (some 25) _) _
  simp only [Act.put, List.setIfInBounds_toArray, List.set_cons_zero, List.set_cons_succ]
  refine wpAnyH_take (i := 14) (v := (.int .i64 ((k : Int) + 1))) rfl (by kernel_rfl) (by kernel_rfl) (by kernel_rfl) (fun _ _ _ h => h) (.inl ⟨by rfl, fun W _ => by go_simp⟩) hH ?_
  change wpAnyH _ _ _ _ _ _ _ (Act.put _ (some 26) _) _
  simp only [Act.put, List.setIfInBounds_toArray, List.set_cons_zero, List.set_cons_succ]
  refine wpAnyH_take (i := 15) (v := (.bool false)) rfl (by kernel_rfl) (by kernel_rfl) (by kernel_rfl) (fun _ _ _ h => h) (.inl ⟨by rfl, fun W _ => by go_simp⟩) hH ?_
  change wpAnyH _ _ _ _ _ _ _ (Act.put _ (some 27) _) _
  simp only [Act.put, List.setIfInBounds_toArray, List.set_cons_zero, List.set_cons_succ]
  refine wpAnyH_take (i := 16) (v := (.bool false)) rfl (by kernel_rfl) (by kernel_rfl) (by kernel_rfl) (fun _ _ _ h => h) (.inl ⟨by rfl, fun W _ => by go_simp⟩) hH ?_
  change wpAnyH _ _ _ _ _ _ _ (Act.put _ (some 28) _) _
  simp only [Act.put, List.setIfInBounds_toArray, List.set_cons_zero, List.set_cons_succ]
  refine wpAnyH_done (by kernel_rfl) ?_ _
  clear hH e1
  have F1 := hide (HX.out _ DV.out)
  go_upto_region 6 with (first | (go_at_call 10; refine (HC.out _ F1.out.1 F1.out.2.2.1).mono ?_; rintro e W2 ⟨rfl, be⟩; have D2 := hide (below_next DV.out be); clear be) | ((with_reducible refine at_list ?_); refine wpList_loadS ABk _ rfl w.heap.size rfl C BZ.out 30 F1.out.2.2.2 (by rfl) ?_))
  have F2 := hide (HX.out _ D2.out)
  have c2 := (RH.out _ F2.out.2.2.2).2
  have CX := hide (CN.out _ F2.out.1)
  clear F1 DV HC
  go_upto_region 9 with (first | (go_at_call 117; refine (HH.out _ CX.out.2).mono ?_; rintro e W3 ⟨rfl, be⟩; have D3 := hide (below_next D2.out be); clear be) | ((with_reducible refine at_list ?_); refine wpLoadT _ rfl ga oa rfl x (by have := CX.out.1; rwa [Nat.zero_mul, Nat.add_zero] at this) (by rfl) ?_))
  clear c2
  go_wp2
  go_ret
  exact ⟨rfl, below_next B1.out D3.out⟩
end
end Go.Proofs.YtofddbjnncgmlabGreatDoor
