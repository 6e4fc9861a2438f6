/- tx.isNull, tx.Base and the document's Base: their contracts. block.Coinbase: its contracts. block.cloneTxs of one transaction: its contract. -/
import Derived.Test.YtpffaaalncdjcaaGreatDoorN18
import Derived.Test.YtpffaaalncdjcaaGreatDoorN09
namespace Go.Proofs.YtpffaaalncdjcaaGreatDoor
open Go.RowKit
open Go.Deep
set_option linter.unusedVariables false
/-- The point of a coinbase's input. -/
def nullP : Tp := ⟨zeros, 4294967295, zeros_len⟩
theorem bldP (W : World) : (Instr.build 176 #[(1, .int .u32 4294967295)]).run Tryz.prog W = .ok (.agg nullP.cells.toArray) W := by kernel_rfl
def Tm.base (m : Tm) : Bool := match m.ins with
  | [x] => decide (x.pt = nullP)
  | _ => false
theorem Tm.base_one (m : Tm) (h : m.ins.length = 1) : m.base = decide ((m.ins[0]'(by omega)).pt = nullP) := by
  obtain ⟨v, L, O, t⟩ := m
  match L, h with
  | [x], _ => rfl
theorem Tm.base_no (m : Tm) (h : m.ins.length ≠ 1) : m.base = false := by
  obtain ⟨v, L, O, t⟩ := m
  match L, h with
  | [], _ => rfl
  | [x], h => exact absurd rfl h
  | _ :: _ :: _, _ => rfl
section
set_option maxRecDepth 10000
set_option maxHeartbeats 4000000
theorem AH32 : Arr 23 32 (hc zeros) := ⟨.inl ⟨_, _, Tryz.underlying23⟩, by kernel_rfl, fun w => by kernel_rfl, fun w => by kernel_rfl, by rw [hc_size, zeros_len]⟩
theorem wpLoadH32 {w : World} {ops : Array Oper} {rest : List Oper} {o : Oper} {a : Act} {Q : Exit → Act → World → Prop} (x : Operand) (ho : o.op = .load 23 x) (g off : Nat) (hx : a.eval x = .pointer (some ⟨g, off, none⟩)) (y : List UInt8) (hy : y.length = 32) (hr : w.rangeAt g off (cellsL y)) (hw : Region.wanted o (yielded ops a.tmps) = true)
    (h : wpList Tryz.prog ops Q rest (a.put o.dst (.agg (hc y))) w) : wpList Tryz.prog ops Q (o :: rest) a w := by
  have ld : (Instr.loadAt 23 (.pointer (some ⟨g, off, none⟩))).run Tryz.prog w = .ok (.agg (hc y)) w :=
    run_loadAt_mid w g off 23 _ _ hr Tryz.underlying23 rfl (by rw [cellsL_len, hy]; kernel_rfl)
  refine wpList_step fun K hK => ?_
  rw [if_pos hw]
  unfold Oper.wp execOp
  simp only [ho, hx, ld, Sem.run_bind, Result.andThen_ok, Sem.run_pure]
  exact hK _ _ h
theorem wpList_buildV {t : TypeId} {n : Nat} {z : Array Value} {w : World} {ops : Array Oper} {rest : List Oper} {o : Oper} {a : Act} {Q : Exit → Act → World → Prop} (A : Arr t n z) (ho : o.op = .build t #[]) (hw : Region.wanted o (yielded ops a.tmps) = true)
    (h : wpList Tryz.prog ops Q rest (a.put o.dst (.agg z)) w) : wpList Tryz.prog ops Q (o :: rest) a w := by
  refine wpList_step fun K hK => ?_
  rw [if_pos hw]
  unfold Oper.wp execOp
  simp only [ho, List.map_toArray, List.map_nil, A.build, Sem.run_bind, Result.andThen_ok, Sem.run_pure]
  exact hK _ _ h
theorem eqH32 (x y : List UInt8) (hx : x.length = 32) (hy : y.length = 32) (W : World) : (Op.equalIn 10000 23 (.agg (hc x)) (.agg (hc y))).run Tryz.prog W = .ok (x == y) W :=
  eqC_bytes x y 32 hx hy 23 Tryz.underlying23 9998 W
theorem Ti.hashR {W : World} {g off : Nat} (x : Ti) (h : W.rangeAt g off x.cells) : W.rangeAt g off (cellsL x.hash) := fun j v hv => by
  refine h j v ?_
  rw [Ti.cells, List.getElem?_append_left (List.getElem?_eq_some_iff.1 hv).1]
  exact hv
theorem Ti.idxR {W : World} {g off : Nat} (x : Ti) (h : W.rangeAt g off x.cells) : W.cell? ⟨g, off + 32, none⟩ = some (.int .u32 (x.idx.toNat : Int)) := h 32 _ (by rw [← List.getElem?_toArray]; exact x.at32)
end
end Go.Proofs.YtpffaaalncdjcaaGreatDoor
namespace Go.Proofs.YtpffaaalncdjcaaGreatDoor
open Go.RowKit
open Go.Deep
set_option linter.unusedVariables false
/-- A coinbase's input. -/
def cbI (k : ByteArray) : Ti := ⟨zeros, 4294967295, k, 4294967295, zeros_len⟩
/-- The coinbase of a height. -/
def cbT (n : Nat) (x : ByteArray) (L : List Tu) : Tm := ⟨1, [cbI (txt (lowL n 4 ++ x.data.toList))], L, 0⟩
theorem bld_cbI (k : ByteArray) (W : World) : (Instr.build 178 #[(0, .agg nullP.cells.toArray), (1, .string k), (2, .int .u32 4294967295)]).run Tryz.prog W = .ok (.agg (cbI k).cells.toArray) W := by kernel_rfl
theorem bld_cbT (a : Option Addr) (n c : Nat) (b : Option Addr) (m d : Nat) (W : World) : (Instr.build 147 #[(0, .int .u32 1), (1, .slice a n c), (2, .slice b m d)]).run Tryz.prog W = .ok (.agg #[.int .u32 1, .slice a n c, .slice b m d, .int .u32 0]) W := by kernel_rfl
theorem bld_0T (W : World) : (Instr.build 147 #[]).run Tryz.prog W = .ok (.agg (zT.cells none 0 none 0)) W := by kernel_rfl
theorem LX.of_row {W : World} {g : Nat} {t : TypeId} {x : Ti} (h : W.heap[g]? = some (.cells x.cells.toArray t (0, 0))) : LX KA W (.slice (some ⟨g, 0, none⟩) 1 1) [x] :=
  ⟨_, 1, rfl, Nat.le_refl _, fun i hi => by
    have h0 : i = 0 := by simpa using hi
    subst h0
    refine ⟨g, 0, rfl, lt_heap h, ?_⟩
    rw [Nat.zero_mul]
    exact rowAt _ h⟩
section
set_option maxRecDepth 10000
set_option maxHeartbeats 4000000
theorem cbase_no (n : Int) (x : ByteArray) (v : Value) (w : World) (hn : n < 0 ∨ 2147483647 < n ∨ 96 < x.size) : Calls Tryz.prog 78 #[.int .i64 n, .string x, v] w fun e w' => e = .returned (.tuple #[.agg (zT.cells none 0 none 0), .int .i64 1]) ∧ Below w.heap.size w w' := by
  have b1 := (Below.refl w.heap.size w).alloc (Nat.le_refl _) (.cells (zT.cells none 0 none 0) 147)
  have R1 := hide (heap_alloc_last w (.cells (zT.cells none 0 none 0) 147))
  have B1 := hide b1
  clear b1
  have key : (decide (n < 0) = true) ∨ (decide (n < 0) = false ∧ decide (n > 2147483647) = true) ∨ (decide (n < 0) = false ∧ decide (n > 2147483647) = false ∧ decide ((x.size : Int) > 96) = true) := by
    by_cases h1 : n < 0
    · exact .inl (decide_eq_true h1)
    · by_cases h2 : 2147483647 < n
      · exact .inr (.inl ⟨decide_eq_false h1, decide_eq_true h2⟩)
      · exact .inr (.inr ⟨decide_eq_false h1, decide_eq_false h2, decide_eq_true (by omega)⟩)
  clear hn
  go_enter Tryz.func78, Tryz.ntmps78
  go_upto_region 1 with ((with_reducible refine at_list ?_); refine wpList_allocA AT rfl rfl ?_)
  generalize w.alloc (.cells (zT.cells none 0 none 0) 147) = W0 at *
  rcases key with h1 | ⟨h1, h2⟩ | ⟨h1, h2, h3⟩
  all_goals
    go_wp2_with ((with_reducible refine at_list ?_); first | refine wpList_buildA AT rfl rfl ?_ | (refine wpList_storeA AT rfl _ _ rfl w.heap.size (zT.cells none 0 none 0) rfl (zT.one _ _ _ _) rfl rfl (zT.cells none 0 none 0) rfl 147 R1.out ?_))
    exact bodyPost_ret (v := .tuple #[.agg (zT.cells none 0 none 0), .int .i64 1]) (resA2K AT Tryz.results78 _ _ w.heap.size 147 _ rfl rfl (setRow_heap _ _ _ _ _ _ R1.out) _ rfl) rfl ⟨rfl, below_setRow B1.out (Nat.le_refl _) _⟩
theorem cbase_yes (n : Nat) (x : ByteArray) (v : Value) (L : List Tu) (w : World) (hn : n ≤ 2147483647) (hx : x.size ≤ 96) (hL : LX KO w v L) (hz : L.length * 24 ≤ 140737488355328) : Calls Tryz.prog 78 #[.int .i64 (n : Int), .string x, v] w fun e w' => ∃ ai ci ao co, e = .returned (.tuple #[.agg ((cbT n x L).cells ai ci ao co), .int .i64 0]) ∧ LT w' (cbT n x L) ai ci ao co ∧ Below w.heap.size w w' := by
  obtain ⟨av, cv, rfl⟩ := hL.form
  have b1 := (Below.refl w.heap.size w).alloc (Nat.le_refl _) (.cells (zT.cells none 0 none 0) 147)
  have R1 := hide (heap_alloc_last w (.cells (zT.cells none 0 none 0) 147))
  have B1 := hide b1
  have HL := hide (hL.below b1)
  have HX := hide hx
  have HN := hide hn
  have h1 : decide ((n : Int) < 0) = false := decide_eq_false (by omega)
  have h2 : decide ((n : Int) > 2147483647) = false := decide_eq_false (by omega)
  have h3 : decide ((x.size : Int) > 96) = false := decide_eq_false (by omega)
  have e1 : IntKind.u32.wrap (n : Int) = (n : Int) := by rw [IntKind.wrap_u32]; omega
  have HC := hide (fun W l => cloneO_any (.slice av L.length cv) L W l hz)
  have LN := hide (lowL_len n 4)
  clear hL b1 hx hn hz
  go_enter Tryz.func78, Tryz.ntmps78
  go_upto_region 1 with ((with_reducible refine at_list ?_); refine wpList_allocA AT rfl rfl ?_)
  generalize w.alloc (.cells (zT.cells none 0 none 0) 147) = W0 at *
  go_upto_region 3 with fail
  clear h1 h2 h3
  go_upto_region 4 with (go_at_call 69; refine (newWriter_any _).mono ?_; rintro e W2 ⟨rfl, rfl⟩)
  have J0 := hide (Wb.new W0)
  generalize W0.alloc (.cells #[.slice none 0 0] 171) = W1 at *
  generalize hb : W0.heap.size = b at *
  go_upto_region 5 with (go_at_call 70; refine (wU32 (pb b) [] n (by have := HN.out; omega) _ (by simp) J0.out.st).mono ?_; rintro e W2 ⟨rfl, j1, f1⟩; have J1 := hide (J0.out.step j1 f1); clear j1 f1)
  rw [List.nil_append] at J1
  clear J0 e1
  go_upto_region 6 with (go_at_call 98; refine (wBytes (pb b) _ x (.inr (by have := HX.out; omega)) _ (by rw [LN.out]; omega) J1.out.st).mono ?_; rintro e W3 ⟨rfl, j1, f1⟩; have J2 := hide (J1.out.step j1 f1); clear j1 f1)
  have KE : Hid (∃ K, K = txt (lowL n 4 ++ x.data.toList)) := ⟨_, rfl⟩
  obtain ⟨K, hK⟩ := KE.out
  have HW : Hid (Calls Tryz.prog 72 #[pb b] W3 fun e w' => e = .returned (.string K) ∧ w' = W3) := by
    show Calls _ _ _ _ _
    rw [hK]
    exact wText b _ W3 J2.out.st
  have HK := hide hK
  clear hK KE J1
  have XE : Hid (∃ X, X = cbI K) := ⟨_, rfl⟩
  obtain ⟨X, hX⟩ := XE.out
  have HXX := hide hX
  have BI : Hid (∀ W, (Instr.build 178 #[(0, .agg nullP.cells.toArray), (1, .string K), (2, .int .u32 4294967295)]).run Tryz.prog W = .ok (.agg X.cells.toArray) W) := by
    rw [hX]
    exact bld_cbI K
  have BP := hide bldP
  clear hX XE
  have CZ := hide X.size
  have CA := hide X.all
  generalize nullP.cells.toArray = NP at *
  go_upto_region 7 with (first | (go_at_call 72; refine HW.out.mono ?_; rintro e W7 ⟨rfl, h9⟩; subst W7) | ((with_reducible refine at_list ?_); first | refine wpList_bldX rfl _ rfl #[(1, .int .u32 4294967295)] NP (by simp only [List.map_toArray, List.map_cons, List.map_nil]; rfl) BP.out ?_ | refine wpList_bldX rfl _ rfl #[(0, .agg NP), (1, .string K), (2, .int .u32 4294967295)] X.cells.toArray (by simp only [List.map_toArray, List.map_cons, List.map_nil]; rfl) BI.out ?_ | refine wpList_allocA AI rfl rfl ?_ | refine wpList_store_newA AI rfl _ _ rfl _ rfl X.cells.toArray CZ.out CA.out rfl rfl ?_))
  simp only [Act.put, List.setIfInBounds_toArray, List.set_cons_zero, List.set_cons_succ]
  have D4 := hide (below_next J2.out.bel ((Below.refl W3.heap.size W3).alloc (Nat.le_refl _) (.cells X.cells.toArray 178)))
  have R9 := hide (heap_alloc_last W3 (.cells X.cells.toArray 178))
  have NG : Hid (w.heap.size ≠ W3.heap.size) := by
    have := lt_heap R1.out
    have := J2.out.bel.size
    show w.heap.size ≠ W3.heap.size
    omega
  have HL4 := hide (HL.out.below D4.out)
  have RZ := hide ((D4.out.block _ (lt_heap R1.out)).trans R1.out)
  have BW4 := hide (below_next B1.out D4.out)
  clear HL R1 J2 D4 HW BI BP
  generalize W3.alloc (.cells X.cells.toArray 178) = W4 at *
  generalize W3.heap.size = g9 at *
  have SS : Hid (∀ W, Below W4.heap.size W4 W → Below w.heap.size w W ∧ W.heap[g9]? = some (.cells X.cells.toArray 178 (0, 0))) := fun W bw => ⟨below_next BW4.out bw, (bw.block _ (lt_heap R9.out)).trans R9.out⟩
  have DV1 := hide ((Below.refl W4.heap.size W4).drew)
  refine wp_region_held_drew (S := fun W => Below w.heap.size w W ∧ W.heap[g9]? = some (.cells X.cells.toArray 178 (0, 0))) (by kernel_rfl) (SS.out _ DV1.out) (fun hH => ?_)
  generalize hWd : W4.drew = V1 at *
  clear hWd
  refine wpAnyH_take (i := 0) (v := (.agg X.cells.toArray)) rfl (by kernel_rfl) (by kernel_rfl) (by kernel_rfl) (fun _ _ _ h => h) (yl_load (by rfl) _ (by rfl) _ X.cells.toArray (by rfl) (fun W hS => ld_row AI CZ.out hS.2)) hH ?_
  change wpAnyH _ _ _ _ _ _ _ (Act.put _ (some 34) _) _
  simp only [Act.put, List.setIfInBounds_toArray, List.set_cons_zero, List.set_cons_succ]
  refine wpAnyH_take (i := 2) (v := (.slice av L.length cv)) rfl (by kernel_rfl) (by kernel_rfl) (by kernel_rfl) (fun _ _ _ h => h) (yl_move (by rfl) _ (by rfl) _ (by rfl)) hH ?_
  change wpAnyH _ _ _ _ _ _ _ (Act.put _ (some 36) _) _
  simp only [Act.put, List.setIfInBounds_toArray, List.set_cons_zero, List.set_cons_succ]
  refine wpAnyH_ready (rs := [1, 3]) (by kernel_rfl) (by simp) (AllReadyH.cons rfl (fun K1 hK1 => ?_) (AllReadyH.cons rfl (fun K1 hK1 => ?_) AllReadyH.nil))
  · refine Ek.stepBs1 KA (by rfl) _ (by rfl) X (by rfl) ?_
    have ba := (Below.refl V1.heap.size V1).alloc (Nat.le_refl _) (.cells (KA.enc X).toArray KA.e)
    have DV2 := hide (below_next DV1.out ba)
    have RI1 := hide (heap_alloc_last V1 (.cells (KA.enc X).toArray KA.e))
    have GI : Hid (W4.heap.size ≤ V1.heap.size) := DV1.out.size
    refine hK1.out _ _ (SS.out _ DV2.out) (fun hH => ?_)
    clear hK1
    change wpAnyH _ _ _ _ _ _ _ (Act.put _ (some 35) _) _
    simp only [Act.put, List.setIfInBounds_toArray, List.set_cons_zero, List.set_cons_succ]
    clear ba
    generalize V1.alloc (.cells (KA.enc X).toArray KA.e) = V2 at *
    generalize V1.heap.size = gi at *
    refine wpAnyH_ready (rs := [3]) (by kernel_rfl) (by simp) (AllReadyH.cons rfl (fun K1 hK1 => ?_) AllReadyH.nil)
    go_simp
    refine (HC.out V2 (HL4.out.below DV2.out)).mono ?_
    rintro r V3 ⟨v', rfl, ox, be, fa⟩
    obtain ⟨ao', co', rfl⟩ := ox.form
    have DV3 := hide (below_next DV2.out be)
    have RI := hide ((be.block _ (lt_heap RI1.out)).trans RI1.out)
    have OXX : Hid (OX KO V3 (.slice ao' L.length co') L ∧ ∀ g, (Value.slice ao' L.length co').ownBlock = some g → W4.heap.size ≤ g) := ⟨ox, fun g hg => Nat.le_trans DV2.out.size (fa g hg)⟩
    refine hK1.out _ _ (SS.out _ DV3.out) (fun hH => ?_)
    clear hK1 be ox fa
    have R3 := hide ((DV3.out.block _ (lt_heap RZ.out)).trans RZ.out)
    refine wpAnyH_take (i := 4) (v := (.agg #[.int .u32 1, .slice (some ⟨gi, 0, none⟩) 1 1, .slice ao' L.length co', .int .u32 0])) rfl (by kernel_rfl) (by kernel_rfl) (by kernel_rfl) (fun _ _ _ h => h) (yl_build (by rfl) _ (by rfl) #[(0, .int .u32 1), (1, .slice (some ⟨gi, 0, none⟩) 1 1), (2, .slice ao' L.length co')] _ (by simp only [List.map_toArray, List.map_cons, List.map_nil]; rfl) (fun W => bld_cbT _ _ _ _ _ _ W)) hH ?_
    change wpAnyH _ _ _ _ _ _ _ (Act.put _ (some 38) _) _
    simp only [Act.put, List.setIfInBounds_toArray, List.set_cons_zero, List.set_cons_succ]
    refine wpAnyH_ready (rs := [5]) (by kernel_rfl) (by simp) (AllReadyH.cons rfl (fun K1 hK1 => ?_) AllReadyH.nil)
    refine stepStoreA AT (by rfl) _ _ (by rfl) w.heap.size #[.int .u32 1, .slice (some ⟨gi, 0, none⟩) 1 1, .slice ao' L.length co', .int .u32 0] rfl (by simp [Value.oneCell']) (by rfl) (by rfl) (zT.cells none 0 none 0) rfl 147 R3.out ?_
    refine hK1.out _ _ ⟨below_setRow (below_next BW4.out DV3.out) (Nat.le_refl _) _, (setRow_other _ _ _ _ (Ne.symm NG.out)).trans ((DV3.out.block _ (lt_heap R9.out)).trans R9.out)⟩ (fun hH => ?_)
    clear hK1
    refine wpAnyH_take (i := 6) (v := (.int .i64 0)) rfl (by kernel_rfl) (by kernel_rfl) (by kernel_rfl) (fun _ _ _ h => h) (.inl ⟨by rfl, fun W _ => by go_simp⟩) hH ?_
    change wpAnyH _ _ _ _ _ _ _ (Act.put _ (some 7) _) _
    simp only [Act.put, List.setIfInBounds_toArray]
    refine wpAnyH_done (by kernel_rfl) ?_ _
    clear hH
    go_wp2
    have hlt0 := lt_heap R3.out
    have LI : LX KA (V3.setRow w.heap.size #[.int .u32 1, .slice (some ⟨gi, 0, none⟩) 1 1, .slice ao' L.length co', .int .u32 0]) (.slice (some ⟨gi, 0, none⟩) 1 1) [X] := LX.of_row ((setRow_other _ _ _ _ (by have := GI.out; have := lt_heap RZ.out; omega)).trans RI.out)
    have LO : OX KO (V3.setRow w.heap.size #[.int .u32 1, .slice (some ⟨gi, 0, none⟩) 1 1, .slice ao' L.length co', .int .u32 0]) (.slice ao' L.length co') L := OXX.out.1.of_block (fun g hg => setRow_other _ _ _ _ (by have := OXX.out.2 g hg; have := lt_heap RZ.out; omega))
    exact bodyPost_ret (v := .tuple #[.agg #[.int .u32 1, .slice (some ⟨gi, 0, none⟩) 1 1, .slice ao' L.length co', .int .u32 0], .int .i64 0]) (resA2K AT Tryz.results78 _ _ w.heap.size 147 _ rfl rfl (setRow_heap _ _ _ _ _ _ R3.out) _ rfl) rfl ⟨some ⟨gi, 0, none⟩, 1, ao', co', rfl, ⟨by rw [show (cbT n x L).ins = [X] by rw [HXX.out, HK.out]; rfl]; exact LI, LO.read⟩, below_setRow (below_next BW4.out DV3.out) (Nat.le_refl _) _⟩
  · go_simp
    refine (HC.out V1 (HL4.out.below DV1.out)).mono ?_
    rintro r V2 ⟨v', rfl, ox, be, fa⟩
    obtain ⟨ao', co', rfl⟩ := ox.form
    have DV2 := hide (below_next DV1.out be)
    have OX0 : Hid (OX KO V2 (.slice ao' L.length co') L ∧ ∀ g, (Value.slice ao' L.length co').ownBlock = some g → W4.heap.size ≤ g) := ⟨ox, fun g hg => Nat.le_trans DV1.out.size (fa g hg)⟩
    refine hK1.out _ _ (SS.out _ DV2.out) (fun hH => ?_)
    clear hK1 be ox fa
    refine wpAnyH_ready (rs := [1]) (by kernel_rfl) (by simp) (AllReadyH.cons rfl (fun K1 hK1 => ?_) AllReadyH.nil)
    refine Ek.stepBs1 KA (by rfl) _ (by rfl) X (by rfl) ?_
    have ba := (Below.refl V2.heap.size V2).alloc (Nat.le_refl _) (.cells (KA.enc X).toArray KA.e)
    have DV3 := hide (below_next DV2.out ba)
    have RI := hide (heap_alloc_last V2 (.cells (KA.enc X).toArray KA.e))
    have GI : Hid (W4.heap.size ≤ V2.heap.size) := DV2.out.size
    have OXX : Hid (OX KO (V2.alloc (.cells (KA.enc X).toArray KA.e)) (.slice ao' L.length co') L ∧ ∀ g, (Value.slice ao' L.length co').ownBlock = some g → W4.heap.size ≤ g) := ⟨OX0.out.1.below ba, OX0.out.2⟩
    refine hK1.out _ _ (SS.out _ DV3.out) (fun hH => ?_)
    clear hK1
    change wpAnyH _ _ _ _ _ _ _ (Act.put _ (some 35) _) _
    simp only [Act.put, List.setIfInBounds_toArray, List.set_cons_zero, List.set_cons_succ]
    clear ba
    generalize V2.alloc (.cells (KA.enc X).toArray KA.e) = V3 at *
    generalize V2.heap.size = gi at *
    have R3 := hide ((DV3.out.block _ (lt_heap RZ.out)).trans RZ.out)
    refine wpAnyH_take (i := 4) (v := (.agg #[.int .u32 1, .slice (some ⟨gi, 0, none⟩) 1 1, .slice ao' L.length co', .int .u32 0])) rfl (by kernel_rfl) (by kernel_rfl) (by kernel_rfl) (fun _ _ _ h => h) (yl_build (by rfl) _ (by rfl) #[(0, .int .u32 1), (1, .slice (some ⟨gi, 0, none⟩) 1 1), (2, .slice ao' L.length co')] _ (by simp only [List.map_toArray, List.map_cons, List.map_nil]; rfl) (fun W => bld_cbT _ _ _ _ _ _ W)) hH ?_
    change wpAnyH _ _ _ _ _ _ _ (Act.put _ (some 38) _) _
    simp only [Act.put, List.setIfInBounds_toArray, List.set_cons_zero, List.set_cons_succ]
    refine wpAnyH_ready (rs := [5]) (by kernel_rfl) (by simp) (AllReadyH.cons rfl (fun K1 hK1 => ?_) AllReadyH.nil)
    refine stepStoreA AT (by rfl) _ _ (by rfl) w.heap.size #[.int .u32 1, .slice (some ⟨gi, 0, none⟩) 1 1, .slice ao' L.length co', .int .u32 0] rfl (by simp [Value.oneCell']) (by rfl) (by rfl) (zT.cells none 0 none 0) rfl 147 R3.out ?_
    refine hK1.out _ _ ⟨below_setRow (below_next BW4.out DV3.out) (Nat.le_refl _) _, (setRow_other _ _ _ _ (Ne.symm NG.out)).trans ((DV3.out.block _ (lt_heap R9.out)).trans R9.out)⟩ (fun hH => ?_)
    clear hK1
    refine wpAnyH_take (i := 6) (v := (.int .i64 0)) rfl (by kernel_rfl) (by kernel_rfl) (by kernel_rfl) (fun _ _ _ h => h) (.inl ⟨by rfl, fun W _ => by go_simp⟩) hH ?_
    change wpAnyH _ _ _ _ _ _ _ (Act.put _ (some 7) _) _
    simp only [Act.put, List.setIfInBounds_toArray]
    refine wpAnyH_done (by kernel_rfl) ?_ _
    clear hH
    go_wp2
    have hlt0 := lt_heap R3.out
    have LI : LX KA (V3.setRow w.heap.size #[.int .u32 1, .slice (some ⟨gi, 0, none⟩) 1 1, .slice ao' L.length co', .int .u32 0]) (.slice (some ⟨gi, 0, none⟩) 1 1) [X] := LX.of_row ((setRow_other _ _ _ _ (by have := GI.out; have := lt_heap RZ.out; omega)).trans RI.out)
    have LO : OX KO (V3.setRow w.heap.size #[.int .u32 1, .slice (some ⟨gi, 0, none⟩) 1 1, .slice ao' L.length co', .int .u32 0]) (.slice ao' L.length co') L := OXX.out.1.of_block (fun g hg => setRow_other _ _ _ _ (by have := OXX.out.2 g hg; have := lt_heap RZ.out; omega))
    exact bodyPost_ret (v := .tuple #[.agg #[.int .u32 1, .slice (some ⟨gi, 0, none⟩) 1 1, .slice ao' L.length co', .int .u32 0], .int .i64 0]) (resA2K AT Tryz.results78 _ _ w.heap.size 147 _ rfl rfl (setRow_heap _ _ _ _ _ _ R3.out) _ rfl) rfl ⟨some ⟨gi, 0, none⟩, 1, ao', co', rfl, ⟨by rw [show (cbT n x L).ins = [X] by rw [HXX.out, HK.out]; rfl]; exact LI, LO.read⟩, below_setRow (below_next BW4.out DV3.out) (Nat.le_refl _) _⟩
end
end Go.Proofs.YtpffaaalncdjcaaGreatDoor
namespace Go.Proofs.YtpffaaalncdjcaaGreatDoor
open Go.RowKit
open Go.Deep
set_option linter.unusedVariables false
theorem OX.row1 {W : World} {v : Value} {x : Tq} (h : OX KT W v [x]) : ∃ g cap cur, v = .slice (some ⟨g, 0, none⟩) 1 cap ∧ 1 ≤ cap ∧ W.heap[g]? = some (.cells cur 147 (0, 0)) ∧ W.rangeAt g 0 x.cells := by
  have hr := h.read
  obtain ⟨h2, h3⟩ := h
  rcases h3 with ⟨rfl, h0⟩ | ⟨g, cap, cur, rfl, hb, hg, hn, hm, hsz, ht⟩
  · cases h0
  · refine ⟨g, cap, cur, rfl, hn, hg, ?_⟩
    have := LX.range hr 0 (by simp)
    rw [Nat.zero_mul] at this
    exact this
theorem Tq.ins0 {W : World} {g : Nat} (x : Tq) (r : W.rangeAt g 0 x.cells) : W.cell? ⟨g, 1, none⟩ = some (.slice x.ai x.m.ins.length x.ci) := by
  have := r 1 _ rfl
  exact this
theorem Tq.outs0 {W : World} {g : Nat} (x : Tq) (r : W.rangeAt g 0 x.cells) : W.cell? ⟨g, 2, none⟩ = some (.slice x.ao x.m.outs.length x.co) := by
  have := r 2 _ rfl
  exact this
theorem Tq.set2 {W : World} {g : Nat} {cur : Array Value} {t : TypeId} (x y : Tq) (hm : y.m = x.m) (hg : W.heap[g]? = some (.cells cur t (0, 0))) (hr : W.rangeAt g 0 x.cells) : ((W.setCell ⟨g, 1, none⟩ (.slice y.ai y.m.ins.length y.ci)).setCell ⟨g, 2, none⟩ (.slice y.ao y.m.outs.length y.co)).rangeAt g 0 y.cells := by
  have h2 := heap_setCell_same _ g 2 _ _ (.slice y.ao y.m.outs.length y.co) (heap_setCell_same W g 1 _ _ (.slice y.ai y.m.ins.length y.ci) hg)
  have c0 : cur[0]? = some (.int .u32 (x.m.ver.toNat : Int)) := by rw [← cell_of_row W g 0 _ _ _ hg]; exact hr 0 _ rfl
  have c3 : cur[3]? = some (.int .u32 (x.m.time.toNat : Int)) := by rw [← cell_of_row W g 3 _ _ _ hg]; exact hr 3 _ rfl
  have hs : 3 < cur.size := (Array.getElem?_eq_some_iff.1 c3).1
  intro j v hv
  rw [cell_of_row _ _ _ _ _ _ h2, Nat.zero_add]
  simp only [Array.getElem?_setIfInBounds, Array.size_setIfInBounds]
  match j, hv with
  | 0, hv =>
    rw [if_neg (by decide), if_neg (by decide), c0, ← hm]
    exact hv
  | 1, hv =>
    rw [if_neg (by decide), if_pos rfl, if_pos (by omega)]
    exact hv
  | 2, hv =>
    rw [if_pos rfl, if_pos (by omega)]
    exact hv
  | 3, hv =>
    rw [if_neg (by decide), if_neg (by decide), c3, ← hm]
    exact hv
  | j + 4, hv => simp [Tq.cells] at hv
section
set_option maxRecDepth 10000
set_option maxHeartbeats 4000000
theorem cloneTxs_one (v : Value) (x : Tq) (w : World) (hL : LQ w v [x]) : Calls Tryz.prog 110 #[v] w fun e w' => ∃ ao cap y, e = .returned (.slice ao 1 cap) ∧ (∀ W' : World, (∀ g, w.heap.size ≤ g → g < w'.heap.size → W'.heap[g]? = w'.heap[g]?) → LQ W' (.slice ao 1 cap) [y]) ∧ y.m = x.m ∧ Below w.heap.size w w' := by
  have HC := hide (cloneT_any v [x] w hL.l (by simp))
  obtain ⟨av, cv, rfl⟩ := hL.l.form
  have XC := hide (hL.t x (by simp))
  have XF := hide (hL.t x (by simp)).2
  clear hL
  have HA := hide (fun W l => cloneA_any (.slice x.ai x.m.ins.length x.ci) x.m.ins W l XF.out.i)
  have HO := hide (fun W l => cloneO_any (.slice x.ao x.m.outs.length x.co) x.m.outs W l XF.out.o)
  have e1 : (([x] : List Tq).length : Int) = 1 := rfl
  go_enter Tryz.func110, Tryz.ntmps110
  go_upto_region 2 with (go_at_call 140; refine HC.out.mono ?_; rintro r W1 ⟨v', rfl, ox, be, fa⟩; have OXX := hide ox; have D1 := hide be; have FA := hide fa; clear ox be fa)
  obtain ⟨g, cap, cur, rfl, hcap, hg, hr⟩ := OXX.out.row1
  have HG := hide hg
  have HR := hide hr
  have GW := hide (FA.out g rfl)
  clear HC OXX FA hg hr
  go_upto_region 3 with fail
  go_loopw [10] (fun i wr => (i = .int .i64 0 ∧ Hid (wr = W1)) ∨ (i = .int .i64 1 ∧ Hid (∃ y, (∀ W' : World, (∀ g, w.heap.size ≤ g → g < wr.heap.size → W'.heap[g]? = wr.heap[g]?) → LQ W' (.slice (some ⟨g, 0, none⟩) 1 cap) [y]) ∧ y.m = x.m ∧ Below w.heap.size w wr))) (fun i _ => (1 - intOf i).toNat)
  case atStart => exact .inl ⟨rfl, rfl⟩
  case round =>
    rcases hrel with ⟨rfl, hw⟩ | ⟨rfl, J⟩
    · have hw2 := hw.out
      subst hw2
      have XZ : Hid (x.arr.size = 4) := rfl
      have XA := hide (x.m.one x.ai x.ci x.ao x.co)
      have XT := hide (XC.out.below D1.out)
      go_upto_region 5 with ((with_reducible refine at_list ?_); first | refine wpLoadT _ rfl g 0 rfl x HR.out (by rfl) ?_ | refine wpList_allocA AT rfl rfl ?_ | refine wpList_store_newA AT rfl _ _ rfl _ rfl x.arr XZ.out XA.out rfl rfl ?_)
      have ba := (Below.refl wr.heap.size wr).alloc (Nat.le_refl _) (.cells x.arr 147)
      have BW := hide (below_next D1.out ba)
      have RX := hide (heap_alloc_last wr (.cells x.arr 147))
      have HG2 := hide ((ba.block _ (lt_heap HG.out)).trans HG.out)
      have HR2 : Hid ((wr.alloc (.cells x.arr 147)).rangeAt g 0 x.cells) := rangeX_below HR.out ba (lt_heap HG.out)
      have XT2 := hide (XT.out.below ba)
      have NG : Hid (g ≠ wr.heap.size) := Nat.ne_of_lt (lt_heap HG.out)
      clear ba HG HR XT
      generalize wr.alloc (.cells x.arr 147) = W4 at *
      generalize wr.heap.size = g5 at *
      have SS : Hid (∀ W, Below W4.heap.size W4 W → Below w.heap.size w W ∧ W.heap[g5]? = some (.cells x.arr 147 (0, 0))) := fun W bw => ⟨below_next BW.out bw, (bw.block _ (lt_heap RX.out)).trans RX.out⟩
      have DV1 := hide ((Below.refl W4.heap.size W4).drew)
      refine wp_region_held_drew (S := fun W => Below w.heap.size w W ∧ W.heap[g5]? = some (.cells x.arr 147 (0, 0))) (by kernel_rfl) (SS.out _ DV1.out) (fun hH => ?_)
      generalize hWd : W4.drew = V1 at *
      clear hWd
      refine wpAnyH_take (i := 0) (v := (.slice (some ⟨g, 0, none⟩) 1 cap)) rfl (by kernel_rfl) (by kernel_rfl) (by kernel_rfl) (fun _ _ _ h => h) (yl_move (by rfl) _ (by rfl) _ (by rfl)) hH ?_
      change wpAnyH _ _ _ _ _ _ _ (Act.put _ (some 15) _) _
      simp only [Act.put, List.setIfInBounds_toArray, List.set_cons_zero, List.set_cons_succ]
      refine wpAnyH_take (i := 1) (v := (.int .i64 0)) rfl (by kernel_rfl) (by kernel_rfl) (by kernel_rfl) (fun _ _ _ h => h) (yl_move (by rfl) _ (by rfl) _ (by rfl)) hH ?_
      change wpAnyH _ _ _ _ _ _ _ (Act.put _ (some 16) _) _
      simp only [Act.put, List.setIfInBounds_toArray, List.set_cons_zero, List.set_cons_succ]
      refine wpAnyH_take (i := 2) (v := (.slice (some ⟨g, 0, none⟩) 1 cap)) rfl (by kernel_rfl) (by kernel_rfl) (by kernel_rfl) (fun _ _ _ h => h) (yl_move (by rfl) _ (by rfl) _ (by rfl)) hH ?_
      change wpAnyH _ _ _ _ _ _ _ (Act.put _ (some 17) _) _
      simp only [Act.put, List.setIfInBounds_toArray, List.set_cons_zero, List.set_cons_succ]
      refine wpAnyH_take (i := 3) (v := (.int .i64 0)) rfl (by kernel_rfl) (by kernel_rfl) (by kernel_rfl) (fun _ _ _ h => h) (yl_move (by rfl) _ (by rfl) _ (by rfl)) hH ?_
      change wpAnyH _ _ _ _ _ _ _ (Act.put _ (some 18) _) _
      simp only [Act.put, List.setIfInBounds_toArray, List.set_cons_zero, List.set_cons_succ]
      refine wpAnyH_take (i := 4) (v := (.pointer (some ⟨g5, 1, none⟩))) rfl (by kernel_rfl) (by kernel_rfl) (by kernel_rfl) (fun _ _ _ h => h) (.inl ⟨by rfl, fun W _ => by go_simp⟩) hH ?_
      change wpAnyH _ _ _ _ _ _ _ (Act.put _ (some 19) _) _
      simp only [Act.put, List.setIfInBounds_toArray, List.set_cons_zero, List.set_cons_succ]
      refine wpAnyH_take (i := 5) (v := (.slice x.ai x.m.ins.length x.ci)) rfl (by kernel_rfl) (by kernel_rfl) (by kernel_rfl) (fun _ _ _ h => h) (.inl ⟨by rfl, fun W hS => by have c4 := x.ins0 (rowAt x.cells hS.2); go_simp⟩) hH ?_
      change wpAnyH _ _ _ _ _ _ _ (Act.put _ (some 20) _) _
      simp only [Act.put, List.setIfInBounds_toArray, List.set_cons_zero, List.set_cons_succ]
      refine wpAnyH_take (i := 7) (v := (.pointer (some ⟨g5, 2, none⟩))) rfl (by kernel_rfl) (by kernel_rfl) (by kernel_rfl) (fun _ _ _ h => h) (.inl ⟨by rfl, fun W _ => by go_simp⟩) hH ?_
      change wpAnyH _ _ _ _ _ _ _ (Act.put _ (some 22) _) _
      simp only [Act.put, List.setIfInBounds_toArray, List.set_cons_zero, List.set_cons_succ]
      refine wpAnyH_take (i := 8) (v := (.slice x.ao x.m.outs.length x.co)) rfl (by kernel_rfl) (by kernel_rfl) (by kernel_rfl) (fun _ _ _ h => h) (.inl ⟨by rfl, fun W hS => by have c4 := x.outs0 (rowAt x.cells hS.2); go_simp⟩) hH ?_
      change wpAnyH _ _ _ _ _ _ _ (Act.put _ (some 23) _) _
      simp only [Act.put, List.setIfInBounds_toArray, List.set_cons_zero, List.set_cons_succ]
      refine wpAnyH_ready (rs := [6]) (by kernel_rfl) (by simp) (AllReadyH.cons rfl (fun K1 hK1 => ?_) AllReadyH.nil)
      go_simp
      refine (HA.out V1 (XT2.out.below DV1.out).1.i).mono ?_
      rintro r V2 ⟨v1, rfl, ox1, be1, fa1⟩
      obtain ⟨ai', ci', rfl⟩ := ox1.form
      have DV2 := hide (below_next DV1.out be1)
      have FA1 := hide fa1
      have VS := hide be1.size
      have O1 := hide ox1
      refine hK1.out _ _ (SS.out _ DV2.out) (fun hH => ?_)
      clear hK1 be1 ox1 fa1
      refine wpAnyH_ready (rs := [9]) (by kernel_rfl) (by simp) (AllReadyH.cons rfl (fun K1 hK1 => ?_) AllReadyH.nil)
      go_simp
      refine (HO.out V2 (XT2.out.below DV2.out).1.o).mono ?_
      rintro r V3 ⟨v2, rfl, ox2, be2, fa2⟩
      obtain ⟨ao', co', rfl⟩ := ox2.form
      have DV3 := hide (below_next DV2.out be2)
      have FA2 := hide fa2
      have O2 := hide ox2
      have O3 := hide (O1.out.below be2)
      refine hK1.out _ _ (SS.out _ DV3.out) (fun hH => ?_)
      clear hK1 be2 ox2 fa2
      refine wpAnyH_take (i := 10) (v := (.pointer (some ⟨g, 0, none⟩))) rfl (by kernel_rfl) (by kernel_rfl) (by kernel_rfl) (fun _ _ _ h => h) (.inl ⟨by rfl, fun W _ => by go_simp⟩) hH ?_
      change wpAnyH _ _ _ _ _ _ _ (Act.put _ (some 25) _) _
      simp only [Act.put, List.setIfInBounds_toArray, List.set_cons_zero, List.set_cons_succ]
      refine wpAnyH_take (i := 11) (v := (.pointer (some ⟨g, 1, none⟩))) rfl (by kernel_rfl) (by kernel_rfl) (by kernel_rfl) (fun _ _ _ h => h) (.inl ⟨by rfl, fun W _ => by go_simp⟩) hH ?_
      change wpAnyH _ _ _ _ _ _ _ (Act.put _ (some 26) _) _
      simp only [Act.put, List.setIfInBounds_toArray, List.set_cons_zero, List.set_cons_succ]
      have bm := hide (And.intro (DV3.out.block _ (lt_heap HG2.out)) (rangeX_below HR2.out DV3.out (lt_heap HG2.out)))
      have HG3 := hide (bm.out.1.trans HG2.out)
      have HR3 := hide bm.out.2
      have LG := hide (Nat.lt_of_lt_of_le (lt_heap HG2.out) DV1.out.size)
      have FB1 : Hid (∀ k, (Value.slice ai' x.m.ins.length ci').ownBlock = some k → k ≠ g) := fun k hk => by have := FA1.out k hk; have := LG.out; omega
      have FB2 : Hid (∀ k, (Value.slice ao' x.m.outs.length co').ownBlock = some k → k ≠ g) := fun k hk => by have h1 := FA2.out k hk; have h2 := LG.out; have h3 := O1.out; have h4 : V1.heap.size ≤ V2.heap.size := VS.out; omega
      have c1 := x.ins0 HR3.out
      have f1 := frozen_of_row V3 g 1 _ _ HG3.out
      refine wpAnyH_ready (rs := [12]) (by kernel_rfl) (by simp) (AllReadyH.cons rfl (fun K1 hK1 => ?_) AllReadyH.nil)
      go_simp
      have FR1 := hide (Rfr.setCell g V3 1 (.slice ai' x.m.ins.length ci'))
      have c2 : (V3.setCell ⟨g, 1, none⟩ (.slice ai' x.m.ins.length ci')).cell? ⟨g, 2, none⟩ = some (.slice x.ao x.m.outs.length x.co) := (cell_set_ne _ _ _ _ _ (by omega)).trans (x.outs0 HR3.out)
      have f2 := frozen_of_row (V3.setCell ⟨g, 1, none⟩ (.slice ai' x.m.ins.length ci')) g 2 _ _ (heap_setCell_same V3 g 1 _ _ _ HG3.out)
      refine hK1.out _ _ ⟨(below_next BW.out DV3.out).trans (FR1.out.to_below GW.out (below_next BW.out DV3.out).size), (FR1.out.block _ (lt_heap (SS.out _ DV3.out).2) (Ne.symm NG.out)).trans (SS.out _ DV3.out).2⟩ (fun hH => ?_)
      clear hK1 c1 f1
      refine wpAnyH_take (i := 13) (v := (.pointer (some ⟨g, 0, none⟩))) rfl (by kernel_rfl) (by kernel_rfl) (by kernel_rfl) (fun _ _ _ h => h) (.inl ⟨by rfl, fun W _ => by go_simp⟩) hH ?_
      change wpAnyH _ _ _ _ _ _ _ (Act.put _ (some 27) _) _
      simp only [Act.put, List.setIfInBounds_toArray, List.set_cons_zero, List.set_cons_succ]
      refine wpAnyH_take (i := 14) (v := (.pointer (some ⟨g, 2, none⟩))) rfl (by kernel_rfl) (by kernel_rfl) (by kernel_rfl) (fun _ _ _ h => h) (.inl ⟨by rfl, fun W _ => by go_simp⟩) hH ?_
      change wpAnyH _ _ _ _ _ _ _ (Act.put _ (some 28) _) _
      simp only [Act.put, List.setIfInBounds_toArray, List.set_cons_zero, List.set_cons_succ]
      have FR2 := hide (FR1.out.trans (Rfr.setCell g (V3.setCell ⟨g, 1, none⟩ (.slice ai' x.m.ins.length ci')) 2 (.slice ao' x.m.outs.length co')))
      have RY := hide (Tq.set2 x ⟨x.m, ai', ci', ao', co'⟩ rfl HG3.out HR3.out)
      have BY := hide ((below_next BW.out DV3.out).trans (FR2.out.to_below GW.out (below_next BW.out DV3.out).size))
      refine wpAnyH_ready (rs := [15]) (by kernel_rfl) (by simp) (AllReadyH.cons rfl (fun K1 hK1 => ?_) AllReadyH.nil)
      go_simp
      refine hK1.out _ _ ⟨BY.out, (FR2.out.block _ (lt_heap (SS.out _ DV3.out).2) (Ne.symm NG.out)).trans (SS.out _ DV3.out).2⟩ (fun hH => ?_)
      clear hK1 c2 f2
      have GB1 : Hid (∀ k, (Value.slice ai' x.m.ins.length ci').ownBlock = some k → w.heap.size ≤ k) := fun k hk => by have h1 := FA1.out k hk; have h2 := (below_next BW.out DV1.out).size; omega
      have GB2 : Hid (∀ k, (Value.slice ao' x.m.outs.length co').ownBlock = some k → w.heap.size ≤ k) := fun k hk => by have h1 := FA2.out k hk; have h2 := (below_next BW.out DV2.out).size; omega
      have HGY := hide (heap_setCell_same _ g 2 _ _ (.slice ao' x.m.outs.length co') (heap_setCell_same V3 g 1 _ _ (.slice ai' x.m.ins.length ci') HG3.out))
      have LL : Hid (∀ W' : World, (∀ g', w.heap.size ≤ g' → g' < ((V3.setCell ⟨g, 1, none⟩ (.slice ai' x.m.ins.length ci')).setCell ⟨g, 2, none⟩ (.slice ao' x.m.outs.length co')).heap.size → W'.heap[g']? = ((V3.setCell ⟨g, 1, none⟩ (.slice ai' x.m.ins.length ci')).setCell ⟨g, 2, none⟩ (.slice ao' x.m.outs.length co')).heap[g']?) → LQ W' (.slice (some ⟨g, 0, none⟩) 1 cap) [⟨x.m, ai', ci', ao', co'⟩]) := fun W' ag => ⟨⟨_, cap, rfl, hcap, fun i hi => by
          have h0 : i = 0 := by simpa using hi
          subst h0
          refine ⟨g, 0, rfl, lt_heap ((ag g GW.out (lt_heap HGY.out)).trans HGY.out), ?_⟩
          rw [Nat.zero_mul]
          exact range_block RY.out (ag g GW.out (lt_heap HGY.out))⟩, fun y hy => by
          rw [List.mem_singleton] at hy
          subst hy
          exact ⟨⟨(O3.out.of_block fun k hk => (ag k (GB1.out k hk) (Nat.lt_of_lt_of_le (O3.out.lt k hk) FR2.out.size)).trans (FR2.out.block k (O3.out.lt k hk) (FB1.out k hk))).read, (O2.out.of_block fun k hk => (ag k (GB2.out k hk) (Nat.lt_of_lt_of_le (O2.out.lt k hk) FR2.out.size)).trans (FR2.out.block k (O2.out.lt k hk) (FB2.out k hk))).read⟩, XF.out⟩⟩
      generalize (V3.setCell ⟨g, 1, none⟩ (.slice ai' x.m.ins.length ci')).setCell ⟨g, 2, none⟩ (.slice ao' x.m.outs.length co') = V5 at *
      refine wpAnyH_done (by kernel_rfl) ?_ _
      clear hH
      go_wp2
      exact ⟨.inr ⟨rfl, _, LL.out, rfl, BY.out⟩, by simp [intOf]⟩
    · go_wp2
      go_ret
      obtain ⟨y, h1, h2, h3⟩ := J.out
      exact ⟨_, _, y, rfl, h1, h2, h3⟩
end
end Go.Proofs.YtpffaaalncdjcaaGreatDoor
