/- The contracts of target.Meets and the document's Meets. Headers: their cells and bytes; the contracts of block.Head, block.ID, block.Meets. The digest: the contracts of Twice and of the document's Twice. Locks and keys: tx.Lock, tx.Opens, the document's Opens: their contracts. -/
import Derived.Test.YthhojpplbhnnfaaGreatDoorX23
import Derived.Test.YthhojpplbhnnfaaGreatDoorX24
import Derived.Test.YthhojpplbhnnfaaGreatDoorX12
import Derived.Test.YthhojpplbhnnfaaGreatDoorX06
import Derived.Test.YthhojpplbhnnfaaGreatDoorX11
namespace Go.Proofs.YthhojpplbhnnfaaGreatDoor
open Go.RowKit
open Go.Deep
theorem hv_eq (l : List UInt8) : hv l = vs 256 (by8 l) 32 := by unfold hv; rfl
/-- Whether an id meets bits. -/
def mt (l : List UInt8) (b : Nat) : Bool := okB b && decide (hv l ≤ tgt b)
theorem cmp_leB (a b : Nat) : (cmpZ a b ≤ 0) = (a ≤ b) := by
  apply propext
  unfold cmpZ
  split
  · simp; omega
  · split <;> simp <;> omega
section
set_option maxRecDepth 10000
set_option maxHeartbeats 2000000
theorem meets_any (l : List UInt8) (hl : l.length = 32) (b : Nat) (hb : b < 4294967296) (w : World) : Calls Tryz.prog 66 #[.agg (hc l), .int .u32 (b : Int)] w fun e w' => e = .returned (.bool (mt l b)) ∧ Below w.heap.size w w' := by
  have HE := hide fun W => expand_any b hb W
  have HO : Hid (∀ W, Calls Tryz.prog 113 #[.agg (hc l)] W fun e w' => e = .returned (.agg (wn (hv l))) ∧ Below W.heap.size W w') := fun W => by
    have := ofW_any l hl W
    rw [← hv_eq] at this
    exact this
  have hX : xt b < M := Nat.lt_of_le_of_lt (xt_le b) Lm_M
  have HC := hide fun W => compare_any _ _ (hv_lt l) hX W
  have J0 := hide (Rc.start1 w 46 (hc l))
  have hcs := hide (show (hc l).size = 32 by rw [hc_size]; exact hl)
  have hm : mt l b = (okB b && decide (cmpZ (hv l) (xt b) ≤ 0)) := by
    unfold mt xt
    cases okB b
    · rw [Bool.false_and, Bool.false_and]
    · simp only [cmp_leB, if_true]
  rw [hm]
  generalize hv l = V at *
  generalize xt b = X at *
  generalize cmpZ V X = z at *
  clear hm hX hl hb
  generalize okB b = ok at *
  cases ok
  · try simp only [Bool.false_eq_true, if_false] at HE
    go_enter Tryz.func66, Tryz.ntmps66
    go_upto_region 1 with (refine wpList_boxA rfl _ rfl (hc l) rfl ?_)
    generalize w.alloc (.cells (hc l) 46) = W0 at *
    go_upto_region 2 with (first | (go_at_call 83; refine (HE.out _).mono ?_; rintro e w1 ⟨rfl, be⟩; have J1 := hide ((J0.out.next be).new 51 (wn X)); clear be) | refine wpList_allocA AW rfl rfl ?_ | refine wpList_store_newA AW rfl _ _ rfl _ rfl (wn X) (wn_size _) (wn_one _) rfl rfl ?_)
    generalize w1.alloc (.cells (wn X) 51) = W1 at *
    generalize w1.heap.size = g5 at *
    obtain ⟨I, hne, F, i0, h0, hJ, hcl⟩ := J1.out.cls
    refine wp_region_class_lit (by kernel_rfl) (by kernel_rfl) i0 h0 ?_
    repeat (go_big_quiet_step (fail))
    refine wpQuiet_nil ?_
    rintro _ ⟨iq, rfl⟩
    go_wp2
    go_ret
    exact ⟨rfl, (hJ.out iq).bel⟩
  · try simp only [if_true] at HE
    have hzd : ∃ v, decide (z ≤ 0) = v := ⟨_, rfl⟩
    obtain ⟨v, hv⟩ := hzd
    rw [hv]
    go_enter Tryz.func66, Tryz.ntmps66
    go_upto_region 1 with (refine wpList_boxA rfl _ rfl (hc l) rfl ?_)
    generalize w.alloc (.cells (hc l) 46) = W0 at *
    go_upto_region 2 with (first | (go_at_call 83; refine (HE.out _).mono ?_; rintro e w1 ⟨rfl, be⟩; have J1 := hide ((J0.out.next be).new 51 (wn X)); clear be) | refine wpList_allocA AW rfl rfl ?_ | refine wpList_store_newA AW rfl _ _ rfl _ rfl (wn X) (wn_size _) (wn_one _) rfl rfl ?_)
    generalize w1.alloc (.cells (wn X) 51) = W1 at *
    generalize w1.heap.size = g5 at *
    obtain ⟨I, hne, F, i0, h0, hJ, hcl⟩ := J1.out.cls
    refine wp_region_class_lit (by kernel_rfl) (by kernel_rfl) i0 h0 ?_
    repeat (first | ((go_big_quiet_want; first | refine quiet_loadA AW _ (by rfl) g5 (by rfl) (wn X) (wn_size _) 51 (Rc.of hJ (by simp)) ?_ | refine quiet_loadA A25 _ (by rfl) w.heap.size (by rfl) (hc l) hcs.out 46 (Rc.of hJ (by simp)) ?_); go_big_quiet_on; simp only [Act.put, List.setIfInBounds_toArray, List.set_cons_succ, List.set_cons_zero]) | go_big_quiet_step (first | (go_at_call 113; exact class_of hcl.out (HO.out _)) | (go_at_call 112; exact class_of hcl.out (HC.out _))))
    refine wpQuiet_nil ?_
    rintro _ ⟨iq, rfl⟩
    go_wp2
    go_ret
    exact ⟨rfl, (hJ.out iq).bel⟩
end
end Go.Proofs.YthhojpplbhnnfaaGreatDoor
namespace Go.Proofs.YthhojpplbhnnfaaGreatDoor
open Go.RowKit
open Go.Deep
set_option linter.unusedVariables false
/-- A header. -/
structure Hd where
  ver : UInt32
  prev : List UInt8
  root : List UInt8
  time : UInt32
  bits : UInt32
  nonce : UInt32
  hp : prev.length = 32
  hr : root.length = 32
def Hd.cells (h : Hd) : List Value := .int .u32 (h.ver.toNat : Int) :: (cellsL h.prev ++ (cellsL h.root ++ [.int .u32 (h.time.toNat : Int), .int .u32 (h.bits.toNat : Int), .int .u32 (h.nonce.toNat : Int)]))
def Hd.front (h : Hd) : List UInt8 := lowL h.ver.toNat 4 ++ h.prev ++ h.root ++ lowL h.time.toNat 4 ++ lowL h.bits.toNat 4
def Hd.bytes (h : Hd) : List UInt8 := h.front ++ lowL h.nonce.toNat 4
theorem Hd.front_len (h : Hd) : h.front.length = 76 := by
  rw [Hd.front]
  simp only [List.length_append, lowL_len, h.hp, h.hr]
theorem Hd.bytes_len (h : Hd) : h.bytes.length = 80 := by
  rw [Hd.bytes]
  simp only [List.length_append, lowL_len, h.front_len]
theorem Hd.len (h : Hd) : h.cells.length = 68 := by
  rw [Hd.cells]
  simp only [List.length_cons, List.length_append, cellsL_len, h.hp, h.hr, List.length_nil]
theorem Hd.size (h : Hd) : h.cells.toArray.size = 68 := by rw [List.size_toArray, h.len]
theorem Hd.one (h : Hd) : ∀ v ∈ h.cells, v.oneCell' = true := by
  intro v hv
  simp only [Hd.cells, List.mem_cons, List.mem_append, List.not_mem_nil, or_false] at hv
  rcases hv with rfl | hv | hv | rfl | rfl | rfl
  · rfl
  · simp only [cellsL, List.mem_map] at hv; obtain ⟨x, _, rfl⟩ := hv; rfl
  · simp only [cellsL, List.mem_map] at hv; obtain ⟨x, _, rfl⟩ := hv; rfl
  · rfl
  · rfl
  · rfl
theorem Hd.all (h : Hd) : h.cells.toArray.all (·.oneCell') = true := by
  rw [Array.all_eq_true_iff_forall_mem]
  intro v hv
  exact h.one v (by simpa using hv)
def zHd : Hd := ⟨0, zeros, zeros, 0, 0, 0, zeros_len, zeros_len⟩
theorem AHd : Arr 48 68 zHd.cells.toArray := ⟨.inr ⟨_, Tryz.underlying48⟩, by kernel_rfl, fun w => by kernel_rfl, fun w => by kernel_rfl, by rw [List.size_toArray, Hd.len]⟩
/-! ### a header's cells -/
theorem Hd.get0 (h : Hd) : h.cells[0]? = some (.int .u32 (h.ver.toNat : Int)) := rfl
theorem Hd.getP (h : Hd) (j : Nat) (v : Value) (hv : (cellsL h.prev)[j]? = some v) : h.cells[1 + j]? = some v := by
  rw [Hd.cells, Nat.add_comm, List.getElem?_cons_succ, List.getElem?_append_left (List.getElem?_eq_some_iff.1 hv).1]
  exact hv
theorem Hd.getR (h : Hd) (j : Nat) (v : Value) (hv : (cellsL h.root)[j]? = some v) : h.cells[33 + j]? = some v := by
  have hl : (cellsL h.prev).length = 32 := by rw [cellsL_len, h.hp]
  rw [Hd.cells, show 33 + j = (32 + j) + 1 by omega, List.getElem?_cons_succ, List.getElem?_append_right (by omega), hl, show 32 + j - 32 = j by omega, List.getElem?_append_left (List.getElem?_eq_some_iff.1 hv).1]
  exact hv
theorem Hd.getL (h : Hd) (j : Nat) : h.cells[65 + j]? = [Value.int .u32 (h.time.toNat : Int), .int .u32 (h.bits.toNat : Int), .int .u32 (h.nonce.toNat : Int)][j]? := by
  have hl : (cellsL h.prev).length = 32 := by rw [cellsL_len, h.hp]
  have hm : (cellsL h.root).length = 32 := by rw [cellsL_len, h.hr]
  rw [Hd.cells, show 65 + j = (64 + j) + 1 by omega, List.getElem?_cons_succ, List.getElem?_append_right (by omega), hl, List.getElem?_append_right (by omega), hm, show 64 + j - 32 - 32 = j by omega]
section
variable {W : World} {g off : Nat} (h : Hd) (r : W.rangeAt g off h.cells)
include r
theorem Hd.ver0 : W.cell? ⟨g, off, none⟩ = some (.int .u32 (h.ver.toNat : Int)) := r 0 _ h.get0
theorem Hd.prevR : W.rangeAt g (off + 1) (cellsL h.prev) := fun j v hv => by rw [Nat.add_assoc]; exact r _ _ (h.getP j v hv)
theorem Hd.rootR : W.rangeAt g (off + 33) (cellsL h.root) := fun j v hv => by rw [Nat.add_assoc]; exact r _ _ (h.getR j v hv)
theorem Hd.time0 : W.cell? ⟨g, off + 65, none⟩ = some (.int .u32 (h.time.toNat : Int)) := r 65 _ (h.getL 0)
theorem Hd.bits0 : W.cell? ⟨g, off + 66, none⟩ = some (.int .u32 (h.bits.toNat : Int)) := r 66 _ (h.getL 1)
theorem Hd.nonce0 : W.cell? ⟨g, off + 67, none⟩ = some (.int .u32 (h.nonce.toNat : Int)) := r 67 _ (h.getL 2)
end
theorem wpLoadHd {w : World} {ops : Array Oper} {rest : List Oper} {o : Oper} {a : Act} {Q : Exit → Act → World → Prop} (x : Operand) (ho : o.op = .load 48 x) (g off : Nat) (hx : a.eval x = .pointer (some ⟨g, off, none⟩)) (y : Hd) (hr : w.rangeAt g off y.cells) (hw : Region.wanted o (yielded ops a.tmps) = true)
    (h : wpList Tryz.prog ops Q rest (a.put o.dst (.agg y.cells.toArray)) w) : wpList Tryz.prog ops Q (o :: rest) a w := by
  have ld : (Instr.loadAt 48 (.pointer (some ⟨g, off, none⟩))).run Tryz.prog w = .ok (.agg y.cells.toArray) w :=
    run_loadAt_mid w g off 48 _ _ hr Tryz.underlying48 rfl (by rw [y.len]; kernel_rfl)
  refine wpList_step fun K hK => ?_
  rw [if_pos hw]
  unfold Oper.wp execOp
  simp only [ho, hx, ld, Sem.run_bind, Result.andThen_ok, Sem.run_pure]
  exact hK _ _ h
theorem wpLoadH25 {w : World} {ops : Array Oper} {rest : List Oper} {o : Oper} {a : Act} {Q : Exit → Act → World → Prop} (x : Operand) (ho : o.op = .load 46 x) (g off : Nat) (hx : a.eval x = .pointer (some ⟨g, off, none⟩)) (y : List UInt8) (hy : y.length = 32) (hr : w.rangeAt g off (cellsL y)) (hw : Region.wanted o (yielded ops a.tmps) = true)
    (h : wpList Tryz.prog ops Q rest (a.put o.dst (.agg (hc y))) w) : wpList Tryz.prog ops Q (o :: rest) a w := by
  have ld : (Instr.loadAt 46 (.pointer (some ⟨g, off, none⟩))).run Tryz.prog w = .ok (.agg (hc y)) w :=
    run_loadAt_mid w g off 46 _ _ hr Tryz.underlying46 rfl (by rw [cellsL_len, hy]; kernel_rfl)
  refine wpList_step fun K hK => ?_
  rw [if_pos hw]
  unfold Oper.wp execOp
  simp only [ho, hx, ld, Sem.run_bind, Result.andThen_ok, Sem.run_pure]
  exact hK _ _ h
section
set_option maxRecDepth 10000
set_option maxHeartbeats 4000000
theorem head_any (h : Hd) (w : World) : Calls Tryz.prog 82 #[.agg h.cells.toArray] w fun e w' => e = .returned (.string (txt h.bytes)) ∧ Below w.heap.size w w' := by
  have b1 := (Below.refl w.heap.size w).alloc (Nat.le_refl _) (.cells h.cells.toArray 48)
  have R1 := hide (heap_alloc_last w (.cells h.cells.toArray 48))
  have B1 := hide b1
  clear b1
  have hsz := hide h.size
  have RR : Hid (∀ W : World, W.heap[w.heap.size]? = some (.cells h.cells.toArray 48 (0, 0)) → W.rangeAt w.heap.size 0 h.cells) := fun W e => by
    have := rowAt _ e
    simpa using this
  generalize hC : h.cells.toArray = C at *
  go_enter Tryz.func82, Tryz.ntmps82
  go_upto_region 1 with ((with_reducible refine at_list ?_); refine wpList_boxA rfl _ rfl C rfl ?_)
  generalize w.alloc (.cells C 48) = W1 at *
  go_upto_region 2 with (go_at_call 123; refine (newWriter_any _).mono ?_; rintro e W2 ⟨rfl, rfl⟩)
  have J0 := hide (Wb.new W1)
  generalize W1.alloc (.cells #[.slice none 0 0] 256) = W2 at *
  generalize hb : W1.heap.size = b at *
  have CC : Hid (∀ W l, Wb W1 W b l → W.rangeAt w.heap.size 0 h.cells) := fun W l j => RR.out W ((j.bel.block _ (by rw [hb]; have := lt_heap R1.out; omega)).trans R1.out)
  have HU : Hid (∀ n : Nat, n < 4294967296 → ∀ l W, Wb W1 W b l → l.length ≤ 35184372088832 → Calls Tryz.prog 124 #[pb b, .int .u32 (n : Int)] W fun e w' => e = .returned (.tuple #[]) ∧ Wb W1 w' b (l ++ lowL n 4) ∧ Wfr W w' (pb b)) := fun n hn l W j hl => (wU32 (pb b) l n hn W hl j.st).mono fun e w' ⟨h1, h2, h3⟩ => ⟨h1, j.step h2 h3, h3⟩
  have HH : Hid (∀ h : List UInt8, h.length = 32 → ∀ l W, Wb W1 W b l → l.length ≤ 35184372088832 → Calls Tryz.prog 125 #[pb b, .agg (hc h)] W fun e w' => e = .returned (.tuple #[]) ∧ Wb W1 w' b (l ++ h) ∧ Wfr W w' (pb b)) := fun h hh l W j hl => (wHash (pb b) l h hh W hl j.st).mono fun e w' ⟨h1, h2, h3⟩ => ⟨h1, j.step h2 h3, h3⟩
  have HW : Hid (∀ l W, Wb W1 W b l → Calls Tryz.prog 126 #[pb b] W fun e w' => e = .returned (.string (txt l)) ∧ w' = W) := fun l W j => wText b l W j.st
  clear R1 RR hb
  have c0 := h.ver0 (CC.out _ _ J0.out)
  go_upto_region 3 with (go_at_call 124; refine (HU.out h.ver.toNat h.ver.toNat_lt [] _ J0.out (by simp)).mono ?_; rintro e W3 ⟨rfl, j1, f1⟩; have J1 := hide j1; clear j1 f1)
  rw [List.nil_append] at J1
  have rp := hide (h.prevR (CC.out _ _ J1.out))
  have HP := hide h.hp
  have HR := hide h.hr
  clear c0 J0
  go_upto_region 4 with (first | (go_at_call 125; refine (HH.out h.prev HP.out _ _ J1.out (by rw [lowL_len]; omega)).mono ?_; rintro e W4 ⟨rfl, j1, f1⟩; have J2 := hide j1; clear j1 f1) | ((with_reducible refine at_list ?_); refine wpLoadH25 _ rfl w.heap.size 1 rfl h.prev HP.out rp.out (by rfl) ?_))
  have rq := hide (h.rootR (CC.out _ _ J2.out))
  clear rp J1
  go_upto_region 5 with (first | (go_at_call 125; refine (HH.out h.root HR.out _ _ J2.out (by rw [List.length_append, lowL_len, HP.out]; omega)).mono ?_; rintro e W5 ⟨rfl, j1, f1⟩; have J3 := hide j1; clear j1 f1) | ((with_reducible refine at_list ?_); refine wpLoadH25 _ rfl w.heap.size 33 rfl h.root HR.out rq.out (by rfl) ?_))
  have c1 := h.time0 (CC.out _ _ J3.out)
  rw [Nat.zero_add] at c1
  clear rq J2
  go_upto_region 6 with (go_at_call 124; refine (HU.out h.time.toNat h.time.toNat_lt _ _ J3.out (by rw [List.length_append, List.length_append, lowL_len, HP.out, HR.out]; omega)).mono ?_; rintro e W6 ⟨rfl, j1, f1⟩; have J4 := hide j1; clear j1 f1)
  have c2 := h.bits0 (CC.out _ _ J4.out)
  rw [Nat.zero_add] at c2
  clear c1 J3
  go_upto_region 7 with (go_at_call 124; refine (HU.out h.bits.toNat h.bits.toNat_lt _ _ J4.out (by rw [List.length_append, List.length_append, List.length_append, lowL_len, lowL_len, HP.out, HR.out]; omega)).mono ?_; rintro e W7 ⟨rfl, j1, f1⟩; have J5 : Hid (Wb W1 W7 b h.front) := j1; clear j1 f1)
  have c3 := h.nonce0 (CC.out _ _ J5.out)
  rw [Nat.zero_add] at c3
  clear c2 J4
  go_upto_region 8 with (go_at_call 124; refine (HU.out h.nonce.toNat h.nonce.toNat_lt _ _ J5.out (by rw [h.front_len]; omega)).mono ?_; rintro e W8 ⟨rfl, j1, f1⟩; have J6 : Hid (Wb W1 W8 b h.bytes) := j1; clear j1 f1)
  clear c3 J5
  go_wp2_with (go_at_call 126; refine (HW.out _ _ J6.out).mono ?_; rintro e W9 ⟨rfl, h9⟩; subst W9)
  go_ret
  exact ⟨rfl, below_next B1.out J6.out.bel⟩
end
end Go.Proofs.YthhojpplbhnnfaaGreatDoor
namespace Go.Proofs.YthhojpplbhnnfaaGreatDoor
open Go.RowKit
open Go.Deep
section
set_option maxRecDepth 10000
set_option maxHeartbeats 1000000
theorem twice_any (s : ByteArray) (hs : s.size < 2305843009213693000) (w : World) (hK : Kg w) : Calls Tryz.prog 81 #[.string s] w fun e w' => e = .returned (.agg (hc (digest (digest s.data.toList)))) ∧ Below w.heap.size w w' := by
  have HS := hide fun W hW => sum_any s hs W hW
  have hdl := digest_len s.data.toList
  generalize digest s.data.toList = D at *
  have hDz : (⟨D.toArray⟩ : ByteArray).size = 32 := by show D.toArray.size = 32; rw [List.size_toArray, hdl]
  have HT := hide fun W hW => sum_any ⟨D.toArray⟩ (by rw [hDz]; omega) W hW
  rw [show (⟨D.toArray⟩ : ByteArray).data.toList = D from rfl] at HT
  have hel := digest_len D
  generalize digest D = E at *
  have HK := hide hK
  have K2 := hide (hK.next ((Below.refl w.heap.size w).alloc (Nat.le_refl _) (.cells (hc zeros) 46)))
  clear hK hDz
  go_enter Tryz.func81, Tryz.ntmps81
  go_wp2_with (first | refine wpList_allocA A25 rfl rfl ?_ | (go_at_call_of 122 (Value.string s); refine (HS.out _ K2.out).mono ?_; rintro e w1 ⟨rfl, b1⟩; obtain ⟨n1, B1, hlt⟩ := sb_mid b1 (Nat.le_refl _); clear b1 hlt; have hcv := conv_row (w1.alloc (.cells (hc D) 46)) w1.heap.size D hdl 46 (heap_alloc_last _ _); obtain ⟨n2, B2⟩ := sb_last n1.out B1.out ((Below.refl w1.heap.size w1).alloc (Nat.le_refl _) (.cells (hc D) 46)); clear n1 B1) | refine wpList_store_newA A25 rfl _ _ rfl _ rfl (hc D) (by rw [hc_size, hdl]) (hc_one _) rfl rfl ?_ | (go_at_call_of 122 (Value.string ⟨D.toArray⟩); refine (HT.out _ (HK.out.next B2.out)).mono ?_; rintro e w3 ⟨rfl, b3⟩; obtain ⟨n3, B3⟩ := sb_last n2.out B2.out b3; clear b3) | refine wpList_storeA A25 rfl _ _ rfl _ (hc E) (by rw [hc_size, hel]) (hc_one _) rfl rfl (hc zeros) (by rw [hc_size, zeros_len]) 46 n3.out ?_)
  exact bodyPost_ret (v := .agg (hc E)) (resA A25 Tryz.results81 _ _ w.heap.size 46 _ (by rw [hc_size, hel]) rfl (setRow_heap _ _ _ _ _ _ n3.out)) rfl ⟨rfl, below_setRow B3.out (Nat.le_refl _) _⟩
theorem rtwice_any (s : ByteArray) (hs : s.size < 2305843009213693000) (w : World) : Calls Tryz.prog 102 #[.string s] w fun e w' => e = .returned (.agg (hc (digest (digest s.data.toList)))) ∧ Below w.heap.size w w' := by
  have HS := hide fun W => rsum_any s hs W
  have hdl := digest_len s.data.toList
  generalize digest s.data.toList = D at *
  have hDz : (⟨D.toArray⟩ : ByteArray).size = 32 := by show D.toArray.size = 32; rw [List.size_toArray, hdl]
  have HT := hide fun W => rsum_any ⟨D.toArray⟩ (by rw [hDz]; omega) W
  rw [show (⟨D.toArray⟩ : ByteArray).data.toList = D from rfl] at HT
  have hel := digest_len D
  generalize digest D = E at *
  clear hDz
  go_enter Tryz.func102, Tryz.ntmps102
  go_wp2_with (first | refine wpList_allocA A24 rfl rfl ?_ | (go_at_call_of 149 (Value.string s); refine (HS.out _).mono ?_; rintro e w1 ⟨rfl, b1⟩; obtain ⟨n1, B1, hlt⟩ := sb_mid b1 (Nat.le_refl _); clear b1 hlt; have hcv := conv_row (w1.alloc (.cells (hc D) 45)) w1.heap.size D hdl 45 (heap_alloc_last _ _); obtain ⟨n2, B2⟩ := sb_last n1.out B1.out ((Below.refl w1.heap.size w1).alloc (Nat.le_refl _) (.cells (hc D) 45)); clear n1 B1) | refine wpList_store_newA A24 rfl _ _ rfl _ rfl (hc D) (by rw [hc_size, hdl]) (hc_one _) rfl rfl ?_ | (go_at_call_of 149 (Value.string ⟨D.toArray⟩); refine (HT.out _).mono ?_; rintro e w3 ⟨rfl, b3⟩; obtain ⟨n3, B3⟩ := sb_last n2.out B2.out b3; clear b3) | refine wpList_storeA A24 rfl _ _ rfl _ (hc E) (by rw [hc_size, hel]) (hc_one _) rfl rfl (hc zeros) (by rw [hc_size, zeros_len]) 45 n3.out ?_)
  exact bodyPost_ret (v := .agg (hc E)) (resA A24 Tryz.results102 _ _ w.heap.size 45 _ (by rw [hc_size, hel]) rfl (setRow_heap _ _ _ _ _ _ n3.out)) rfl ⟨rfl, below_setRow B3.out (Nat.le_refl _) _⟩
end
end Go.Proofs.YthhojpplbhnnfaaGreatDoor
namespace Go.Proofs.YthhojpplbhnnfaaGreatDoor
open Go.RowKit
open Go.Deep
set_option linter.unusedVariables false
/-- A part of a hash, turned into a string. -/
theorem conv_part (w : World) (g : Nat) (l : List UInt8) (o k c : Nat) (hl : o + k ≤ l.length) (t : TypeId) (hg : w.heap[g]? = some (.cells (hc l) t (0, 0))) :
    (convert 198 9 (.slice (some ⟨g, o, none⟩) k c)).run Tryz.prog w = .ok (.string ⟨((l.drop o).take k).toArray⟩) w := by
  have hlen : ((l.drop o).take k).length = k := by rw [List.length_take, List.length_drop]; omega
  have := run_convert_bytes_back (P := Tryz.prog) w 198 9 5 ⟨g, o, none⟩ c ((l.drop o).take k) Tryz.underlying198 Tryz.underlying5 Tryz.underlying9 (fun j hj => by
    have hadd : (⟨g, o, none⟩ : Addr).add j = ⟨g, o + j, none⟩ := by unfold Addr.add; split <;> simp_all
    rw [hlen] at hj
    rw [hadd, cell_of_row w g (o + j) _ t (0, 0) hg, hc_at l (o + j) (by omega), by8]
    simp [List.getElem?_eq_getElem (show o + j < l.length by omega)])
  rwa [hlen] at this
/-- The digest of a key. -/
def dg2 (s : ByteArray) : List UInt8 := digest (digest s.data.toList)
theorem dg2_len (s : ByteArray) : (dg2 s).length = 32 := digest_len _
/-- The lock of n bytes. -/
def lockT (s : ByteArray) (n : Nat) : ByteArray := txt ((dg2 s).take n)
theorem lockT_sz (s : ByteArray) (n : Nat) (h : n ≤ 32) : (lockT s n).size = n := by rw [lockT, txt_sz, List.length_take, dg2_len]; omega
/-- Does a key open a lock? -/
def opB (lock key : ByteArray) : Bool := decide (lock.size ≤ 32) && decide (lockT key lock.size = lock)
theorem opB_empty (key : ByteArray) : opB ⟨#[]⟩ key = true := by
  unfold opB
  rw [Bool.and_eq_true]
  exact ⟨rfl, decide_eq_true (by unfold lockT; rfl)⟩
theorem opB_lock (key : ByteArray) (n : Nat) (h : n ≤ 32) : opB (lockT key n) key = true := by
  unfold opB
  rw [Bool.and_eq_true, lockT_sz key n h]
  exact ⟨decide_eq_true h, decide_eq_true rfl⟩
section
set_option maxRecDepth 10000
set_option maxHeartbeats 4000000
end
end Go.Proofs.YthhojpplbhnnfaaGreatDoor
