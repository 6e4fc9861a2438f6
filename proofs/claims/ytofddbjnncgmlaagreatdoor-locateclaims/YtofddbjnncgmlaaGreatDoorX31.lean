/- tx.isNull, tx.Base and the document's Base: their contracts. block.Coinbase: its contracts. -/
import Derived.Test.YtofddbjnncgmlaaGreatDoorX30
import Derived.Test.YtofddbjnncgmlaaGreatDoorX12
namespace Go.Proofs.YtofddbjnncgmlaaGreatDoor
open Go.RowKit
open Go.Deep
set_option linter.unusedVariables false
/-- The point of a coinbase's input. -/
def nullP : Tp := ⟨zeros, 4294967295, zeros_len⟩
theorem bldP (W : World) : (Instr.build 221 #[(1, .int .u32 4294967295)]).run Tryz.prog W = .ok (.agg nullP.cells.toArray) W := by kernel_rfl
def Tm.base (m : Tm) : Bool := match m.ins with
  | [x] => decide (x.pt = nullP)
  | _ => false
theorem Tm.base_one (m : Tm) (h : m.ins.length = 1) : m.base = decide ((m.ins[0]'(by omega)).pt = nullP) := by
  obtain ⟨v, L, O, t⟩ := m
  match L, h with
  | [x], _ => rfl
theorem Tm.base_no (m : Tm) (h : m.ins.length ≠ 1) : m.base = false := by
  obtain ⟨v, L, O, t⟩ := m
  match L, h with
  | [], _ => rfl
  | [x], h => exact absurd rfl h
  | _ :: _ :: _, _ => rfl
section
set_option maxRecDepth 10000
set_option maxHeartbeats 4000000
theorem isNull_any (p : Tp) (w : World) : Calls Tryz.prog 271 #[.agg p.cells.toArray] w fun e w' => e = .returned (.bool (decide (p = nullP))) ∧ Below w.heap.size w w' := by
  have b1 := (Below.refl w.heap.size w).alloc (Nat.le_refl _) (.cells p.cells.toArray 221)
  have R1 := hide (heap_alloc_last w (.cells p.cells.toArray 221))
  have B1 := hide b1
  have PZ := hide p.size
  have EQ := hide (fun W => eqPt fp_api 9997 p nullP W)
  have BL := hide (fun W => bldP W)
  have HG : Tryz.prog.eqGuardType Tryz.prog.depth 221 = false := by kernel_rfl
  clear b1
  generalize p.cells.toArray = C at *
  generalize nullP.cells.toArray = D at *
  generalize decide (p = nullP) = V at *
  go_enter Tryz.func271, Tryz.ntmps271
  go_upto_region 1 with ((with_reducible refine at_list ?_); refine wpList_boxA rfl _ rfl C rfl ?_)
  generalize w.alloc (.cells C 221) = W1 at *
  go_wp2_with ((with_reducible refine at_list ?_); first | refine wpList_loadS APt _ rfl w.heap.size rfl C PZ.out 221 R1.out (by rfl) ?_ | refine wpList_bldX rfl _ rfl #[(1, .int .u32 4294967295)] D (by simp only [List.map_toArray, List.map_cons, List.map_nil]; rfl) BL.out ?_ | refine wpList_eql 221 _ _ _ rfl C D rfl rfl (by rfl) HG V EQ.out ?_)
  go_ret
  exact ⟨rfl, B1.out⟩
theorem base_any (m : Tm) (ai : Option Addr) (ci : Nat) (ao : Option Addr) (co : Nat) (w : World) (hl : LT w m ai ci ao co) (hf : m.fit) : Calls Tryz.prog 192 #[.agg (m.cells ai ci ao co)] w fun e w' => e = .returned (.bool m.base) ∧ Below w.heap.size w w' := by
  have b1 := (Below.refl w.heap.size w).alloc (Nat.le_refl _) (.cells (m.cells ai ci ao co) 190)
  have r1 := heap_alloc_last w (.cells (m.cells ai ci ao co) 190)
  have c1 : (w.alloc (.cells (m.cells ai ci ao co) 190)).cell? ⟨w.heap.size, 1, none⟩ = some (.slice ai m.ins.length ci) := by rw [cell_of_row _ _ _ _ _ _ r1]; rfl
  have HL := hide (hl.below b1)
  have B1 := hide b1
  clear b1 r1 hl
  generalize m.cells ai ci ao co = C at *
  by_cases h : m.ins.length = 1
  · obtain ⟨ga, oa, rfl⟩ := HL.out.i.base (by omega)
    have RP := hide (Ti.ptAt _ (HL.out.i.range 0 (by omega)))
    rw [h] at c1
    rw [m.base_one h]
    have HI : Hid (∀ W, Calls Tryz.prog 271 #[.agg (m.ins[0]'(by omega)).pt.cells.toArray] W fun e w' => e = .returned (.bool (decide ((m.ins[0]'(by omega)).pt = nullP))) ∧ Below W.heap.size W w') := fun W => isNull_any _ W
    generalize (m.ins[0]'(by omega)).pt = y at *
    rw [Nat.zero_mul, Nat.add_zero] at RP
    clear h HL hf
    go_enter Tryz.func192, Tryz.ntmps192
    go_upto_region 1 with ((with_reducible refine at_list ?_); refine wpList_boxA rfl _ rfl C rfl ?_)
    generalize w.alloc (.cells C 190) = W1 at *
    generalize hq : decide (y = nullP) = V at *
    go_wp2_with (first | (go_at_call 271; refine (HI.out _).mono ?_; rintro r W2 ⟨rfl, b2⟩; have B2 := hide (below_next B1.out b2); clear b2) | ((with_reducible refine at_list ?_); refine wpLoadP _ rfl ga oa rfl y RP.out (by rfl) ?_))
    go_ret
    exact ⟨by rw [hq]; rfl, B2.out⟩
  · rw [m.base_no h]
    have h2 : ((m.ins.length : Int) == 1) = false := by simp; omega
    go_enter Tryz.func192, Tryz.ntmps192
    go_upto_region 1 with ((with_reducible refine at_list ?_); refine wpList_boxA rfl _ rfl C rfl ?_)
    generalize w.alloc (.cells C 190) = W1 at *
    go_wp2
    go_ret
    exact ⟨rfl, B1.out⟩
theorem AH32 : Arr 45 32 (hc zeros) := ⟨.inl ⟨_, _, Tryz.underlying45⟩, by kernel_rfl, fun w => by kernel_rfl, fun w => by kernel_rfl, by rw [hc_size, zeros_len]⟩
theorem wpLoadH32 {w : World} {ops : Array Oper} {rest : List Oper} {o : Oper} {a : Act} {Q : Exit → Act → World → Prop} (x : Operand) (ho : o.op = .load 45 x) (g off : Nat) (hx : a.eval x = .pointer (some ⟨g, off, none⟩)) (y : List UInt8) (hy : y.length = 32) (hr : w.rangeAt g off (cellsL y)) (hw : Region.wanted o (yielded ops a.tmps) = true)
    (h : wpList Tryz.prog ops Q rest (a.put o.dst (.agg (hc y))) w) : wpList Tryz.prog ops Q (o :: rest) a w := by
  have ld : (Instr.loadAt 45 (.pointer (some ⟨g, off, none⟩))).run Tryz.prog w = .ok (.agg (hc y)) w :=
    run_loadAt_mid w g off 45 _ _ hr Tryz.underlying45 rfl (by rw [cellsL_len, hy]; kernel_rfl)
  refine wpList_step fun K hK => ?_
  rw [if_pos hw]
  unfold Oper.wp execOp
  simp only [ho, hx, ld, Sem.run_bind, Result.andThen_ok, Sem.run_pure]
  exact hK _ _ h
theorem wpList_buildV {t : TypeId} {n : Nat} {z : Array Value} {w : World} {ops : Array Oper} {rest : List Oper} {o : Oper} {a : Act} {Q : Exit → Act → World → Prop} (A : Arr t n z) (ho : o.op = .build t #[]) (hw : Region.wanted o (yielded ops a.tmps) = true)
    (h : wpList Tryz.prog ops Q rest (a.put o.dst (.agg z)) w) : wpList Tryz.prog ops Q (o :: rest) a w := by
  refine wpList_step fun K hK => ?_
  rw [if_pos hw]
  unfold Oper.wp execOp
  simp only [ho, List.map_toArray, List.map_nil, A.build, Sem.run_bind, Result.andThen_ok, Sem.run_pure]
  exact hK _ _ h
theorem eqH32 (x y : List UInt8) (hx : x.length = 32) (hy : y.length = 32) (W : World) : (Op.equalIn 10000 45 (.agg (hc x)) (.agg (hc y))).run Tryz.prog W = .ok (x == y) W :=
  eqC_bytes x y 32 hx hy 45 Tryz.underlying45 9998 W
theorem Ti.hashR {W : World} {g off : Nat} (x : Ti) (h : W.rangeAt g off x.cells) : W.rangeAt g off (cellsL x.hash) := fun j v hv => by
  refine h j v ?_
  rw [Ti.cells, List.getElem?_append_left (List.getElem?_eq_some_iff.1 hv).1]
  exact hv
theorem Ti.idxR {W : World} {g off : Nat} (x : Ti) (h : W.rangeAt g off x.cells) : W.cell? ⟨g, off + 32, none⟩ = some (.int .u32 (x.idx.toNat : Int)) := h 32 _ (by rw [← List.getElem?_toArray]; exact x.at32)
theorem rbase_any (m : Tm) (ai : Option Addr) (ci : Nat) (ao : Option Addr) (co : Nat) (w : World) (hl : LR w m ai ci ao co) (hf : m.fit) : Calls Tryz.prog 104 #[.agg (m.cells ai ci ao co)] w fun e w' => e = .returned (.bool m.base) ∧ Below w.heap.size w w' := by
  have b1 := (Below.refl w.heap.size w).alloc (Nat.le_refl _) (.cells (m.cells ai ci ao co) 217)
  have r1 := heap_alloc_last w (.cells (m.cells ai ci ao co) 217)
  have c1 : (w.alloc (.cells (m.cells ai ci ao co) 217)).cell? ⟨w.heap.size, 1, none⟩ = some (.slice ai m.ins.length ci) := by rw [cell_of_row _ _ _ _ _ _ r1]; rfl
  have HL := hide (hl.below b1)
  have B1 := hide b1
  have HG : Tryz.prog.eqGuardType Tryz.prog.depth 45 = false := by kernel_rfl
  clear b1 r1 hl
  generalize m.cells ai ci ao co = C at *
  by_cases h : m.ins.length = 1
  · obtain ⟨ga, oa, rfl⟩ := HL.out.i.base (by omega)
    have RG := HL.out.i.range 0 (by omega)
    rw [h] at c1
    rw [m.base_one h]
    generalize (m.ins[0]'(by omega)) = y at *
    rw [Nat.zero_mul, Nat.add_zero] at RG
    have RH := hide (y.hashR RG)
    have cx := y.idxR RG
    rw [← Tp.same]
    have EQ := hide (eqH32 y.hash zeros y.hh zeros_len)
    have YH := hide y.hh
    clear h HL hf RG
    show Calls _ _ _ _ (fun e w' => e = .returned (.bool ((y.hash == zeros) && (((y.idx.toNat : Int) == ((4294967295 : UInt32).toNat : Int)) && true))) ∧ _)
    have e9 : ((4294967295 : UInt32).toNat : Int) = 4294967295 := by decide
    rw [e9, Bool.and_true]
    clear e9
    generalize (y.idx.toNat : Int) = V at *
    generalize y.hash = H at *
    generalize hq : (H == zeros) = b at *
    clear hq
    go_enter Tryz.func104, Tryz.ntmps104
    go_upto_region 1 with ((with_reducible refine at_list ?_); refine wpList_boxA rfl _ rfl C rfl ?_)
    generalize w.alloc (.cells C 217) = W1 at *
    cases b
    · go_wp2_with ((with_reducible refine at_list ?_); first | refine wpLoadH32 _ rfl ga oa rfl H YH.out RH.out (by rfl) ?_ | refine wpList_buildV AH32 rfl (by rfl) ?_ | refine wpList_eql 45 _ _ _ rfl (hc H) (hc zeros) rfl rfl (by rfl) HG false EQ.out ?_)
      go_ret
      exact ⟨rfl, B1.out⟩
    · generalize hq : (V == 4294967295) = b2 at *
      go_wp2_with ((with_reducible refine at_list ?_); first | refine wpLoadH32 _ rfl ga oa rfl H YH.out RH.out (by rfl) ?_ | refine wpList_buildV AH32 rfl (by rfl) ?_ | refine wpList_eql 45 _ _ _ rfl (hc H) (hc zeros) rfl rfl (by rfl) HG true EQ.out ?_)
      go_ret
      exact ⟨by simp [hq], B1.out⟩
  · rw [m.base_no h]
    have h2 : ((m.ins.length : Int) == 1) = false := by simp; omega
    go_enter Tryz.func104, Tryz.ntmps104
    go_upto_region 1 with ((with_reducible refine at_list ?_); refine wpList_boxA rfl _ rfl C rfl ?_)
    generalize w.alloc (.cells C 217) = W1 at *
    go_wp2
    go_ret
    exact ⟨rfl, B1.out⟩
end
end Go.Proofs.YtofddbjnncgmlaaGreatDoor
namespace Go.Proofs.YtofddbjnncgmlaaGreatDoor
open Go.RowKit
open Go.Deep
set_option linter.unusedVariables false
/-- A coinbase's input. -/
def cbI (k : ByteArray) : Ti := ⟨zeros, 4294967295, k, 4294967295, zeros_len⟩
/-- The coinbase of a height. -/
def cbT (n : Nat) (x : ByteArray) (L : List Tu) : Tm := ⟨1, [cbI (txt (lowL n 4 ++ x.data.toList))], L, 0⟩
theorem bld_cbI (k : ByteArray) (W : World) : (Instr.build 223 #[(0, .agg nullP.cells.toArray), (1, .string k), (2, .int .u32 4294967295)]).run Tryz.prog W = .ok (.agg (cbI k).cells.toArray) W := by kernel_rfl
theorem bld_cbT (a : Option Addr) (n c : Nat) (b : Option Addr) (m d : Nat) (W : World) : (Instr.build 190 #[(0, .int .u32 1), (1, .slice a n c), (2, .slice b m d)]).run Tryz.prog W = .ok (.agg #[.int .u32 1, .slice a n c, .slice b m d, .int .u32 0]) W := by kernel_rfl
theorem bld_0T (W : World) : (Instr.build 190 #[]).run Tryz.prog W = .ok (.agg (zT.cells none 0 none 0)) W := by kernel_rfl
theorem LX.of_row {W : World} {g : Nat} {t : TypeId} {x : Ti} (h : W.heap[g]? = some (.cells x.cells.toArray t (0, 0))) : LX KA W (.slice (some ⟨g, 0, none⟩) 1 1) [x] :=
  ⟨_, 1, rfl, Nat.le_refl _, fun i hi => by
    have h0 : i = 0 := by simpa using hi
    subst h0
    refine ⟨g, 0, rfl, lt_heap h, ?_⟩
    rw [Nat.zero_mul]
    exact rowAt _ h⟩
section
set_option maxRecDepth 10000
set_option maxHeartbeats 4000000
theorem cbase_no (n : Int) (x : ByteArray) (v : Value) (w : World) (hn : n < 0 ∨ 2147483647 < n ∨ 96 < x.size) : Calls Tryz.prog 93 #[.int .i64 n, .string x, v] w fun e w' => e = .returned (.tuple #[.agg (zT.cells none 0 none 0), .int .i64 1]) ∧ Below w.heap.size w w' := by
  have b1 := (Below.refl w.heap.size w).alloc (Nat.le_refl _) (.cells (zT.cells none 0 none 0) 190)
  have R1 := hide (heap_alloc_last w (.cells (zT.cells none 0 none 0) 190))
  have B1 := hide b1
  clear b1
  have key : (decide (n < 0) = true) ∨ (decide (n < 0) = false ∧ decide (n > 2147483647) = true) ∨ (decide (n < 0) = false ∧ decide (n > 2147483647) = false ∧ decide ((x.size : Int) > 96) = true) := by
    by_cases h1 : n < 0
    · exact .inl (decide_eq_true h1)
    · by_cases h2 : 2147483647 < n
      · exact .inr (.inl ⟨decide_eq_false h1, decide_eq_true h2⟩)
      · exact .inr (.inr ⟨decide_eq_false h1, decide_eq_false h2, decide_eq_true (by omega)⟩)
  clear hn
  go_enter Tryz.func93, Tryz.ntmps93
  go_upto_region 1 with ((with_reducible refine at_list ?_); refine wpList_allocA AT rfl rfl ?_)
  generalize w.alloc (.cells (zT.cells none 0 none 0) 190) = W0 at *
  rcases key with h1 | ⟨h1, h2⟩ | ⟨h1, h2, h3⟩
  all_goals
    go_wp2_with ((with_reducible refine at_list ?_); first | refine wpList_buildA AT rfl rfl ?_ | (refine wpList_storeA AT rfl _ _ rfl w.heap.size (zT.cells none 0 none 0) rfl (zT.one _ _ _ _) rfl rfl (zT.cells none 0 none 0) rfl 190 R1.out ?_))
    exact bodyPost_ret (v := .tuple #[.agg (zT.cells none 0 none 0), .int .i64 1]) (resA2K AT Tryz.results93 _ _ w.heap.size 190 _ rfl rfl (setRow_heap _ _ _ _ _ _ R1.out) _ rfl) rfl ⟨rfl, below_setRow B1.out (Nat.le_refl _) _⟩
theorem cbase_yes (n : Nat) (x : ByteArray) (v : Value) (L : List Tu) (w : World) (hn : n ≤ 2147483647) (hx : x.size ≤ 96) (hL : LX KO w v L) (hz : L.length * 24 ≤ 140737488355328) : Calls Tryz.prog 93 #[.int .i64 (n : Int), .string x, v] w fun e w' => ∃ ai ci ao co, e = .returned (.tuple #[.agg ((cbT n x L).cells ai ci ao co), .int .i64 0]) ∧ LT w' (cbT n x L) ai ci ao co ∧ Below w.heap.size w w' := by
  obtain ⟨av, cv, rfl⟩ := hL.form
  have b1 := (Below.refl w.heap.size w).alloc (Nat.le_refl _) (.cells (zT.cells none 0 none 0) 190)
  have R1 := hide (heap_alloc_last w (.cells (zT.cells none 0 none 0) 190))
  have B1 := hide b1
  have HL := hide (hL.below b1)
  have HX := hide hx
  have HN := hide hn
  have h1 : decide ((n : Int) < 0) = false := decide_eq_false (by omega)
  have h2 : decide ((n : Int) > 2147483647) = false := decide_eq_false (by omega)
  have h3 : decide ((x.size : Int) > 96) = false := decide_eq_false (by omega)
  have e1 : IntKind.u32.wrap (n : Int) = (n : Int) := by rw [IntKind.wrap_u32]; omega
  have HC := hide (fun W l => cloneO_any (.slice av L.length cv) L W l hz)
  have LN := hide (lowL_len n 4)
  clear hL b1 hx hn hz
  go_enter Tryz.func93, Tryz.ntmps93
  go_upto_region 1 with ((with_reducible refine at_list ?_); refine wpList_allocA AT rfl rfl ?_)
  generalize w.alloc (.cells (zT.cells none 0 none 0) 190) = W0 at *
  go_upto_region 3 with fail
  clear h1 h2 h3
  go_upto_region 4 with (go_at_call 121; refine (newWriter_any _).mono ?_; rintro e W2 ⟨rfl, rfl⟩)
  have J0 := hide (Wb.new W0)
  generalize W0.alloc (.cells #[.slice none 0 0] 364) = W1 at *
  generalize hb : W0.heap.size = b at *
  go_upto_region 5 with (go_at_call 123; refine (wU32 (pb b) [] n (by have := HN.out; omega) _ (by simp) J0.out.st).mono ?_; rintro e W2 ⟨rfl, j1, f1⟩; have J1 := hide (J0.out.step j1 f1); clear j1 f1)
  rw [List.nil_append] at J1
  clear J0 e1
  go_upto_region 6 with (go_at_call 185; refine (wBytes (pb b) _ x (.inr (by have := HX.out; omega)) _ (by rw [LN.out]; omega) J1.out.st).mono ?_; rintro e W3 ⟨rfl, j1, f1⟩; have J2 := hide (J1.out.step j1 f1); clear j1 f1)
  have KE : Hid (∃ K, K = txt (lowL n 4 ++ x.data.toList)) := ⟨_, rfl⟩
  obtain ⟨K, hK⟩ := KE.out
  have HW : Hid (Calls Tryz.prog 127 #[pb b] W3 fun e w' => e = .returned (.string K) ∧ w' = W3) := by
    show Calls _ _ _ _ _
    rw [hK]
    exact wText b _ W3 J2.out.st
  have HK := hide hK
  clear hK KE J1
  have XE : Hid (∃ X, X = cbI K) := ⟨_, rfl⟩
  obtain ⟨X, hX⟩ := XE.out
  have HXX := hide hX
  have BI : Hid (∀ W, (Instr.build 223 #[(0, .agg nullP.cells.toArray), (1, .string K), (2, .int .u32 4294967295)]).run Tryz.prog W = .ok (.agg X.cells.toArray) W) := by
    rw [hX]
    exact bld_cbI K
  have BP := hide bldP
  clear hX XE
  have CZ := hide X.size
  have CA := hide X.all
  generalize nullP.cells.toArray = NP at *
  go_upto_region 7 with (first | (go_at_call 127; refine HW.out.mono ?_; rintro e W7 ⟨rfl, h9⟩; subst W7) | ((with_reducible refine at_list ?_); first | refine wpList_bldX rfl _ rfl #[(1, .int .u32 4294967295)] NP (by simp only [List.map_toArray, List.map_cons, List.map_nil]; rfl) BP.out ?_ | refine wpList_bldX rfl _ rfl #[(0, .agg NP), (1, .string K), (2, .int .u32 4294967295)] X.cells.toArray (by simp only [List.map_toArray, List.map_cons, List.map_nil]; rfl) BI.out ?_ | refine wpList_allocA AI rfl rfl ?_ | refine wpList_store_newA AI rfl _ _ rfl _ rfl X.cells.toArray CZ.out CA.out rfl rfl ?_))
  simp only [Act.put, List.setIfInBounds_toArray, List.set_cons_zero, List.set_cons_succ]
  have D4 := hide (below_next J2.out.bel ((Below.refl W3.heap.size W3).alloc (Nat.le_refl _) (.cells X.cells.toArray 223)))
  have R9 := hide (heap_alloc_last W3 (.cells X.cells.toArray 223))
  have NG : Hid (w.heap.size ≠ W3.heap.size) := by
    have := lt_heap R1.out
    have := J2.out.bel.size
    show w.heap.size ≠ W3.heap.size
    omega
  have HL4 := hide (HL.out.below D4.out)
  have RZ := hide ((D4.out.block _ (lt_heap R1.out)).trans R1.out)
  have BW4 := hide (below_next B1.out D4.out)
  clear HL R1 J2 D4 HW BI BP
  generalize W3.alloc (.cells X.cells.toArray 223) = W4 at *
  generalize W3.heap.size = g9 at *
  have SS : Hid (∀ W, Below W4.heap.size W4 W → Below w.heap.size w W ∧ W.heap[g9]? = some (.cells X.cells.toArray 223 (0, 0))) := fun W bw => ⟨below_next BW4.out bw, (bw.block _ (lt_heap R9.out)).trans R9.out⟩
  have DV1 := hide ((Below.refl W4.heap.size W4).drew)
  refine wp_region_held_drew (S := fun W => Below w.heap.size w W ∧ W.heap[g9]? = some (.cells X.cells.toArray 223 (0, 0))) (by kernel_rfl) (SS.out _ DV1.out) (fun hH => ?_)
  generalize hWd : W4.drew = V1 at *
  clear hWd
  refine wpAnyH_take (i := 0) (v := (.agg X.cells.toArray)) rfl (by kernel_rfl) (by kernel_rfl) (by kernel_rfl) (fun _ _ _ h => h) (yl_load (by rfl) _ (by rfl) _ X.cells.toArray (by rfl) (fun W hS => ld_row AI CZ.out hS.2)) hH ?_
  change wpAnyH _ _ _ _ _ _ _ (Act.put _ (some 34) _) _
  simp only [Act.put, List.setIfInBounds_toArray, List.set_cons_zero, List.set_cons_succ]
  refine wpAnyH_take (i := 2) (v := (.slice av L.length cv)) rfl (by kernel_rfl) (by kernel_rfl) (by kernel_rfl) (fun _ _ _ h => h) (yl_move (by rfl) _ (by rfl) _ (by rfl)) hH ?_
  change wpAnyH _ _ _ _ _ _ _ (Act.put _ (some 36) _) _
  simp only [Act.put, List.setIfInBounds_toArray, List.set_cons_zero, List.set_cons_succ]
  refine wpAnyH_ready (rs := [1, 3]) (by kernel_rfl) (by simp) (AllReadyH.cons rfl (fun K1 hK1 => ?_) (AllReadyH.cons rfl (fun K1 hK1 => ?_) AllReadyH.nil))
  · refine Ek.stepBs1 KA (by rfl) _ (by rfl) X (by rfl) ?_
    have ba := (Below.refl V1.heap.size V1).alloc (Nat.le_refl _) (.cells (KA.enc X).toArray KA.e)
    have DV2 := hide (below_next DV1.out ba)
    have RI1 := hide (heap_alloc_last V1 (.cells (KA.enc X).toArray KA.e))
    have GI : Hid (W4.heap.size ≤ V1.heap.size) := DV1.out.size
    refine hK1.out _ _ (SS.out _ DV2.out) (fun hH => ?_)
    clear hK1
    change wpAnyH _ _ _ _ _ _ _ (Act.put _ (some 35) _) _
    simp only [Act.put, List.setIfInBounds_toArray, List.set_cons_zero, List.set_cons_succ]
    clear ba
    generalize V1.alloc (.cells (KA.enc X).toArray KA.e) = V2 at *
    generalize V1.heap.size = gi at *
    refine wpAnyH_ready (rs := [3]) (by kernel_rfl) (by simp) (AllReadyH.cons rfl (fun K1 hK1 => ?_) AllReadyH.nil)
    go_simp
    refine (HC.out V2 (HL4.out.below DV2.out)).mono ?_
    rintro r V3 ⟨v', rfl, ox, be, fa⟩
    obtain ⟨ao', co', rfl⟩ := ox.form
    have DV3 := hide (below_next DV2.out be)
    have RI := hide ((be.block _ (lt_heap RI1.out)).trans RI1.out)
    have OXX : Hid (OX KO V3 (.slice ao' L.length co') L ∧ ∀ g, (Value.slice ao' L.length co').ownBlock = some g → W4.heap.size ≤ g) := ⟨ox, fun g hg => Nat.le_trans DV2.out.size (fa g hg)⟩
    refine hK1.out _ _ (SS.out _ DV3.out) (fun hH => ?_)
    clear hK1 be ox fa
    have R3 := hide ((DV3.out.block _ (lt_heap RZ.out)).trans RZ.out)
    refine wpAnyH_take (i := 4) (v := (.agg #[.int .u32 1, .slice (some ⟨gi, 0, none⟩) 1 1, .slice ao' L.length co', .int .u32 0])) rfl (by kernel_rfl) (by kernel_rfl) (by kernel_rfl) (fun _ _ _ h => h) (yl_build (by rfl) _ (by rfl) #[(0, .int .u32 1), (1, .slice (some ⟨gi, 0, none⟩) 1 1), (2, .slice ao' L.length co')] _ (by simp only [List.map_toArray, List.map_cons, List.map_nil]; rfl) (fun W => bld_cbT _ _ _ _ _ _ W)) hH ?_
    change wpAnyH _ _ _ _ _ _ _ (Act.put _ (some 38) _) _
    simp only [Act.put, List.setIfInBounds_toArray, List.set_cons_zero, List.set_cons_succ]
    refine wpAnyH_ready (rs := [5]) (by kernel_rfl) (by simp) (AllReadyH.cons rfl (fun K1 hK1 => ?_) AllReadyH.nil)
    refine stepStoreA AT (by rfl) _ _ (by rfl) w.heap.size #[.int .u32 1, .slice (some ⟨gi, 0, none⟩) 1 1, .slice ao' L.length co', .int .u32 0] rfl (by simp [Value.oneCell']) (by rfl) (by rfl) (zT.cells none 0 none 0) rfl 190 R3.out ?_
    refine hK1.out _ _ ⟨below_setRow (below_next BW4.out DV3.out) (Nat.le_refl _) _, (setRow_other _ _ _ _ (Ne.symm NG.out)).trans ((DV3.out.block _ (lt_heap R9.out)).trans R9.out)⟩ (fun hH => ?_)
    clear hK1
    refine wpAnyH_take (i := 6) (v := (.int .i64 0)) rfl (by kernel_rfl) (by kernel_rfl) (by kernel_rfl) (fun _ _ _ h => h) (.inl ⟨by rfl, fun W _ => by go_simp⟩) hH ?_
    change wpAnyH _ _ _ _ _ _ _ (Act.put _ (some 7) _) _
    simp only [Act.put, List.setIfInBounds_toArray]
    refine wpAnyH_done (by kernel_rfl) ?_ _
    clear hH
    go_wp2
    have hlt0 := lt_heap R3.out
    have LI : LX KA (V3.setRow w.heap.size #[.int .u32 1, .slice (some ⟨gi, 0, none⟩) 1 1, .slice ao' L.length co', .int .u32 0]) (.slice (some ⟨gi, 0, none⟩) 1 1) [X] := LX.of_row ((setRow_other _ _ _ _ (by have := GI.out; have := lt_heap RZ.out; omega)).trans RI.out)
    have LO : OX KO (V3.setRow w.heap.size #[.int .u32 1, .slice (some ⟨gi, 0, none⟩) 1 1, .slice ao' L.length co', .int .u32 0]) (.slice ao' L.length co') L := OXX.out.1.of_block (fun g hg => setRow_other _ _ _ _ (by have := OXX.out.2 g hg; have := lt_heap RZ.out; omega))
    exact bodyPost_ret (v := .tuple #[.agg #[.int .u32 1, .slice (some ⟨gi, 0, none⟩) 1 1, .slice ao' L.length co', .int .u32 0], .int .i64 0]) (resA2K AT Tryz.results93 _ _ w.heap.size 190 _ rfl rfl (setRow_heap _ _ _ _ _ _ R3.out) _ rfl) rfl ⟨some ⟨gi, 0, none⟩, 1, ao', co', rfl, ⟨by rw [show (cbT n x L).ins = [X] by rw [HXX.out, HK.out]; rfl]; exact LI, LO.read⟩, below_setRow (below_next BW4.out DV3.out) (Nat.le_refl _) _⟩
  · go_simp
    refine (HC.out V1 (HL4.out.below DV1.out)).mono ?_
    rintro r V2 ⟨v', rfl, ox, be, fa⟩
    obtain ⟨ao', co', rfl⟩ := ox.form
    have DV2 := hide (below_next DV1.out be)
    have OX0 : Hid (OX KO V2 (.slice ao' L.length co') L ∧ ∀ g, (Value.slice ao' L.length co').ownBlock = some g → W4.heap.size ≤ g) := ⟨ox, fun g hg => Nat.le_trans DV1.out.size (fa g hg)⟩
    refine hK1.out _ _ (SS.out _ DV2.out) (fun hH => ?_)
    clear hK1 be ox fa
    refine wpAnyH_ready (rs := [1]) (by kernel_rfl) (by simp) (AllReadyH.cons rfl (fun K1 hK1 => ?_) AllReadyH.nil)
    refine Ek.stepBs1 KA (by rfl) _ (by rfl) X (by rfl) ?_
    have ba := (Below.refl V2.heap.size V2).alloc (Nat.le_refl _) (.cells (KA.enc X).toArray KA.e)
    have DV3 := hide (below_next DV2.out ba)
    have RI := hide (heap_alloc_last V2 (.cells (KA.enc X).toArray KA.e))
    have GI : Hid (W4.heap.size ≤ V2.heap.size) := DV2.out.size
    have OXX : Hid (OX KO (V2.alloc (.cells (KA.enc X).toArray KA.e)) (.slice ao' L.length co') L ∧ ∀ g, (Value.slice ao' L.length co').ownBlock = some g → W4.heap.size ≤ g) := ⟨OX0.out.1.below ba, OX0.out.2⟩
    refine hK1.out _ _ (SS.out _ DV3.out) (fun hH => ?_)
    clear hK1
    change wpAnyH _ _ _ _ _ _ _ (Act.put _ (some 35) _) _
    simp only [Act.put, List.setIfInBounds_toArray, List.set_cons_zero, List.set_cons_succ]
    clear ba
    generalize V2.alloc (.cells (KA.enc X).toArray KA.e) = V3 at *
    generalize V2.heap.size = gi at *
    have R3 := hide ((DV3.out.block _ (lt_heap RZ.out)).trans RZ.out)
    refine wpAnyH_take (i := 4) (v := (.agg #[.int .u32 1, .slice (some ⟨gi, 0, none⟩) 1 1, .slice ao' L.length co', .int .u32 0])) rfl (by kernel_rfl) (by kernel_rfl) (by kernel_rfl) (fun _ _ _ h => h) (yl_build (by rfl) _ (by rfl) #[(0, .int .u32 1), (1, .slice (some ⟨gi, 0, none⟩) 1 1), (2, .slice ao' L.length co')] _ (by simp only [List.map_toArray, List.map_cons, List.map_nil]; rfl) (fun W => bld_cbT _ _ _ _ _ _ W)) hH ?_
    change wpAnyH _ _ _ _ _ _ _ (Act.put _ (some 38) _) _
    simp only [Act.put, List.setIfInBounds_toArray, List.set_cons_zero, List.set_cons_succ]
    refine wpAnyH_ready (rs := [5]) (by kernel_rfl) (by simp) (AllReadyH.cons rfl (fun K1 hK1 => ?_) AllReadyH.nil)
    refine stepStoreA AT (by rfl) _ _ (by rfl) w.heap.size #[.int .u32 1, .slice (some ⟨gi, 0, none⟩) 1 1, .slice ao' L.length co', .int .u32 0] rfl (by simp [Value.oneCell']) (by rfl) (by rfl) (zT.cells none 0 none 0) rfl 190 R3.out ?_
    refine hK1.out _ _ ⟨below_setRow (below_next BW4.out DV3.out) (Nat.le_refl _) _, (setRow_other _ _ _ _ (Ne.symm NG.out)).trans ((DV3.out.block _ (lt_heap R9.out)).trans R9.out)⟩ (fun hH => ?_)
    clear hK1
    refine wpAnyH_take (i := 6) (v := (.int .i64 0)) rfl (by kernel_rfl) (by kernel_rfl) (by kernel_rfl) (fun _ _ _ h => h) (.inl ⟨by rfl, fun W _ => by go_simp⟩) hH ?_
    change wpAnyH _ _ _ _ _ _ _ (Act.put _ (some 7) _) _
    simp only [Act.put, List.setIfInBounds_toArray]
    refine wpAnyH_done (by kernel_rfl) ?_ _
    clear hH
    go_wp2
    have hlt0 := lt_heap R3.out
    have LI : LX KA (V3.setRow w.heap.size #[.int .u32 1, .slice (some ⟨gi, 0, none⟩) 1 1, .slice ao' L.length co', .int .u32 0]) (.slice (some ⟨gi, 0, none⟩) 1 1) [X] := LX.of_row ((setRow_other _ _ _ _ (by have := GI.out; have := lt_heap RZ.out; omega)).trans RI.out)
    have LO : OX KO (V3.setRow w.heap.size #[.int .u32 1, .slice (some ⟨gi, 0, none⟩) 1 1, .slice ao' L.length co', .int .u32 0]) (.slice ao' L.length co') L := OXX.out.1.of_block (fun g hg => setRow_other _ _ _ _ (by have := OXX.out.2 g hg; have := lt_heap RZ.out; omega))
    exact bodyPost_ret (v := .tuple #[.agg #[.int .u32 1, .slice (some ⟨gi, 0, none⟩) 1 1, .slice ao' L.length co', .int .u32 0], .int .i64 0]) (resA2K AT Tryz.results93 _ _ w.heap.size 190 _ rfl rfl (setRow_heap _ _ _ _ _ _ R3.out) _ rfl) rfl ⟨some ⟨gi, 0, none⟩, 1, ao', co', rfl, ⟨by rw [show (cbT n x L).ins = [X] by rw [HXX.out, HK.out]; rfl]; exact LI, LO.read⟩, below_setRow (below_next BW4.out DV3.out) (Nat.le_refl _) _⟩
end
end Go.Proofs.YtofddbjnncgmlaaGreatDoor
