/- Headers: their cells and bytes; the contracts of block.Head, block.ID, block.Meets. The digest: the contracts of Twice and of the document's Twice. Locks and keys: tx.Lock, tx.Opens, the document's Opens: their contracts. The contracts of block.ID, block.Meets and block.idBehind. The contract of block.Mine, where a nonce is found. -/
import Derived.Test.YtcoojkpimbddlaaGreatDoorP0
import Derived.Test.YtcoojkpimbddlaaGreatDoorX08
import Derived.Test.YtcoojkpimbddlaaGreatDoorX15
import Derived.Test.YtcoojkpimbddlaaGreatDoorX04
import Derived.Test.YtcoojkpimbddlaaGreatDoorX07
namespace Go.Proofs.YtcoojkpimbddlaaGreatDoor
open Go.RowKit
open Go.Deep
set_option linter.unusedVariables false
structure Hd where
  ver : UInt32
  prev : List UInt8
  root : List UInt8
  time : UInt32
  bits : UInt32
  nonce : UInt32
  hp : prev.length = 32
  hr : root.length = 32
def Hd.cells (h : Hd) : List Value := .int .u32 (h.ver.toNat : Int) :: (cellsL h.prev ++ (cellsL h.root ++ [.int .u32 (h.time.toNat : Int), .int .u32 (h.bits.toNat : Int), .int .u32 (h.nonce.toNat : Int)]))
def Hd.front (h : Hd) : List UInt8 := lowL h.ver.toNat 4 ++ h.prev ++ h.root ++ lowL h.time.toNat 4 ++ lowL h.bits.toNat 4
def Hd.bytes (h : Hd) : List UInt8 := h.front ++ lowL h.nonce.toNat 4
theorem Hd.front_len (h : Hd) : h.front.length = 76 := by
  rw [Hd.front]
  simp only [List.length_append, lowL_len, h.hp, h.hr]
theorem Hd.bytes_len (h : Hd) : h.bytes.length = 80 := by
  rw [Hd.bytes]
  simp only [List.length_append, lowL_len, h.front_len]
theorem Hd.len (h : Hd) : h.cells.length = 68 := by
  rw [Hd.cells]
  simp only [List.length_cons, List.length_append, cellsL_len, h.hp, h.hr, List.length_nil]
theorem Hd.size (h : Hd) : h.cells.toArray.size = 68 := by rw [List.size_toArray, h.len]
theorem Hd.one (h : Hd) : ∀ v ∈ h.cells, v.oneCell' = true := by
  intro v hv
  simp only [Hd.cells, List.mem_cons, List.mem_append, List.not_mem_nil, or_false] at hv
  rcases hv with rfl | hv | hv | rfl | rfl | rfl
  · rfl
  · simp only [cellsL, List.mem_map] at hv; obtain ⟨x, _, rfl⟩ := hv; rfl
  · simp only [cellsL, List.mem_map] at hv; obtain ⟨x, _, rfl⟩ := hv; rfl
  · rfl
  · rfl
  · rfl
theorem Hd.all (h : Hd) : h.cells.toArray.all (·.oneCell') = true := by
  rw [Array.all_eq_true_iff_forall_mem]
  intro v hv
  exact h.one v (by simpa using hv)
def zHd : Hd := ⟨0, zeros, zeros, 0, 0, 0, zeros_len, zeros_len⟩
theorem AHd : Arr 48 68 zHd.cells.toArray := ⟨.inr ⟨_, Tryz.underlying48⟩, by kernel_rfl, fun w => by kernel_rfl, fun w => by kernel_rfl, by rw [List.size_toArray, Hd.len]⟩
/-! ### a header's cells -/
theorem Hd.get0 (h : Hd) : h.cells[0]? = some (.int .u32 (h.ver.toNat : Int)) := rfl
theorem Hd.getP (h : Hd) (j : Nat) (v : Value) (hv : (cellsL h.prev)[j]? = some v) : h.cells[1 + j]? = some v := by
  rw [Hd.cells, Nat.add_comm, List.getElem?_cons_succ, List.getElem?_append_left (List.getElem?_eq_some_iff.1 hv).1]
  exact hv
theorem Hd.getR (h : Hd) (j : Nat) (v : Value) (hv : (cellsL h.root)[j]? = some v) : h.cells[33 + j]? = some v := by
  have hl : (cellsL h.prev).length = 32 := by rw [cellsL_len, h.hp]
  rw [Hd.cells, show 33 + j = (32 + j) + 1 by omega, List.getElem?_cons_succ, List.getElem?_append_right (by omega), hl, show 32 + j - 32 = j by omega, List.getElem?_append_left (List.getElem?_eq_some_iff.1 hv).1]
  exact hv
theorem Hd.getL (h : Hd) (j : Nat) : h.cells[65 + j]? = [Value.int .u32 (h.time.toNat : Int), .int .u32 (h.bits.toNat : Int), .int .u32 (h.nonce.toNat : Int)][j]? := by
  have hl : (cellsL h.prev).length = 32 := by rw [cellsL_len, h.hp]
  have hm : (cellsL h.root).length = 32 := by rw [cellsL_len, h.hr]
  rw [Hd.cells, show 65 + j = (64 + j) + 1 by omega, List.getElem?_cons_succ, List.getElem?_append_right (by omega), hl, List.getElem?_append_right (by omega), hm, show 64 + j - 32 - 32 = j by omega]
section
variable {W : World} {g off : Nat} (h : Hd) (r : W.rangeAt g off h.cells)
include r
theorem Hd.ver0 : W.cell? ⟨g, off, none⟩ = some (.int .u32 (h.ver.toNat : Int)) := r 0 _ h.get0
theorem Hd.prevR : W.rangeAt g (off + 1) (cellsL h.prev) := fun j v hv => by rw [Nat.add_assoc]; exact r _ _ (h.getP j v hv)
theorem Hd.rootR : W.rangeAt g (off + 33) (cellsL h.root) := fun j v hv => by rw [Nat.add_assoc]; exact r _ _ (h.getR j v hv)
theorem Hd.time0 : W.cell? ⟨g, off + 65, none⟩ = some (.int .u32 (h.time.toNat : Int)) := r 65 _ (h.getL 0)
theorem Hd.bits0 : W.cell? ⟨g, off + 66, none⟩ = some (.int .u32 (h.bits.toNat : Int)) := r 66 _ (h.getL 1)
theorem Hd.nonce0 : W.cell? ⟨g, off + 67, none⟩ = some (.int .u32 (h.nonce.toNat : Int)) := r 67 _ (h.getL 2)
end
theorem wpLoadHd {w : World} {ops : Array Oper} {rest : List Oper} {o : Oper} {a : Act} {Q : Exit → Act → World → Prop} (x : Operand) (ho : o.op = .load 48 x) (g off : Nat) (hx : a.eval x = .pointer (some ⟨g, off, none⟩)) (y : Hd) (hr : w.rangeAt g off y.cells) (hw : Region.wanted o (yielded ops a.tmps) = true)
    (h : wpList Tryz.prog ops Q rest (a.put o.dst (.agg y.cells.toArray)) w) : wpList Tryz.prog ops Q (o :: rest) a w := by
  have ld : (Instr.loadAt 48 (.pointer (some ⟨g, off, none⟩))).run Tryz.prog w = .ok (.agg y.cells.toArray) w :=
    run_loadAt_mid w g off 48 _ _ hr Tryz.underlying48 rfl (by rw [y.len]; kernel_rfl)
  refine wpList_step fun K hK => ?_
  rw [if_pos hw]
  unfold Oper.wp execOp
  simp only [ho, hx, ld, Sem.run_bind, Result.andThen_ok, Sem.run_pure]
  exact hK _ _ h
theorem wpLoadH25 {w : World} {ops : Array Oper} {rest : List Oper} {o : Oper} {a : Act} {Q : Exit → Act → World → Prop} (x : Operand) (ho : o.op = .load 46 x) (g off : Nat) (hx : a.eval x = .pointer (some ⟨g, off, none⟩)) (y : List UInt8) (hy : y.length = 32) (hr : w.rangeAt g off (cellsL y)) (hw : Region.wanted o (yielded ops a.tmps) = true)
    (h : wpList Tryz.prog ops Q rest (a.put o.dst (.agg (hc y))) w) : wpList Tryz.prog ops Q (o :: rest) a w := by
  have ld : (Instr.loadAt 46 (.pointer (some ⟨g, off, none⟩))).run Tryz.prog w = .ok (.agg (hc y)) w :=
    run_loadAt_mid w g off 46 _ _ hr Tryz.underlying46 rfl (by rw [cellsL_len, hy]; kernel_rfl)
  refine wpList_step fun K hK => ?_
  rw [if_pos hw]
  unfold Oper.wp execOp
  simp only [ho, hx, ld, Sem.run_bind, Result.andThen_ok, Sem.run_pure]
  exact hK _ _ h
section
set_option maxRecDepth 10000
set_option maxHeartbeats 4000000
theorem head_any (h : Hd) (w : World) : Calls Tryz.prog 108 #[.agg h.cells.toArray] w fun e w' => e = .returned (.string (txt h.bytes)) ∧ Below w.heap.size w w' := by
  have b1 := (Below.refl w.heap.size w).alloc (Nat.le_refl _) (.cells h.cells.toArray 48)
  have R1 := hide (heap_alloc_last w (.cells h.cells.toArray 48))
  have B1 := hide b1
  clear b1
  have hsz := hide h.size
  have RR : Hid (∀ W : World, W.heap[w.heap.size]? = some (.cells h.cells.toArray 48 (0, 0)) → W.rangeAt w.heap.size 0 h.cells) := fun W e => by
    have := rowAt _ e
    simpa using this
  generalize hC : h.cells.toArray = C at *
  go_enter Tryz.func108, Tryz.ntmps108
  go_upto_region 1 with ((with_reducible refine at_list ?_); refine wpList_boxA rfl _ rfl C rfl ?_)
  generalize w.alloc (.cells C 48) = W1 at *
  go_upto_region 2 with (go_at_call 140; refine (newWriter_any _).mono ?_; rintro e W2 ⟨rfl, rfl⟩)
  have J0 := hide (Wb.new W1)
  generalize W1.alloc (.cells #[.slice none 0 0] 323) = W2 at *
  generalize hb : W1.heap.size = b at *
  have CC : Hid (∀ W l, Wb W1 W b l → W.rangeAt w.heap.size 0 h.cells) := fun W l j => RR.out W ((j.bel.block _ (by rw [hb]; have := lt_heap R1.out; omega)).trans R1.out)
  have HU : Hid (∀ n : Nat, n < 4294967296 → ∀ l W, Wb W1 W b l → l.length ≤ 35184372088832 → Calls Tryz.prog 141 #[pb b, .int .u32 (n : Int)] W fun e w' => e = .returned (.tuple #[]) ∧ Wb W1 w' b (l ++ lowL n 4) ∧ Wfr W w' (pb b)) := fun n hn l W j hl => (wU32 (pb b) l n hn W hl j.st).mono fun e w' ⟨h1, h2, h3⟩ => ⟨h1, j.step h2 h3, h3⟩
  have HH : Hid (∀ h : List UInt8, h.length = 32 → ∀ l W, Wb W1 W b l → l.length ≤ 35184372088832 → Calls Tryz.prog 159 #[pb b, .agg (hc h)] W fun e w' => e = .returned (.tuple #[]) ∧ Wb W1 w' b (l ++ h) ∧ Wfr W w' (pb b)) := fun h hh l W j hl => (wHash (pb b) l h hh W hl j.st).mono fun e w' ⟨h1, h2, h3⟩ => ⟨h1, j.step h2 h3, h3⟩
  have HW : Hid (∀ l W, Wb W1 W b l → Calls Tryz.prog 143 #[pb b] W fun e w' => e = .returned (.string (txt l)) ∧ w' = W) := fun l W j => wText b l W j.st
  clear R1 RR hb
  have c0 := h.ver0 (CC.out _ _ J0.out)
  go_upto_region 3 with (go_at_call 141; refine (HU.out h.ver.toNat h.ver.toNat_lt [] _ J0.out (by simp)).mono ?_; rintro e W3 ⟨rfl, j1, f1⟩; have J1 := hide j1; clear j1 f1)
  rw [List.nil_append] at J1
  have rp := hide (h.prevR (CC.out _ _ J1.out))
  have HP := hide h.hp
  have HR := hide h.hr
  clear c0 J0
  go_upto_region 4 with (first | (go_at_call 159; refine (HH.out h.prev HP.out _ _ J1.out (by rw [lowL_len]; omega)).mono ?_; rintro e W4 ⟨rfl, j1, f1⟩; have J2 := hide j1; clear j1 f1) | ((with_reducible refine at_list ?_); refine wpLoadH25 _ rfl w.heap.size 1 rfl h.prev HP.out rp.out (by rfl) ?_))
  have rq := hide (h.rootR (CC.out _ _ J2.out))
  clear rp J1
  go_upto_region 5 with (first | (go_at_call 159; refine (HH.out h.root HR.out _ _ J2.out (by rw [List.length_append, lowL_len, HP.out]; omega)).mono ?_; rintro e W5 ⟨rfl, j1, f1⟩; have J3 := hide j1; clear j1 f1) | ((with_reducible refine at_list ?_); refine wpLoadH25 _ rfl w.heap.size 33 rfl h.root HR.out rq.out (by rfl) ?_))
  have c1 := h.time0 (CC.out _ _ J3.out)
  rw [Nat.zero_add] at c1
  clear rq J2
  go_upto_region 6 with (go_at_call 141; refine (HU.out h.time.toNat h.time.toNat_lt _ _ J3.out (by rw [List.length_append, List.length_append, lowL_len, HP.out, HR.out]; omega)).mono ?_; rintro e W6 ⟨rfl, j1, f1⟩; have J4 := hide j1; clear j1 f1)
  have c2 := h.bits0 (CC.out _ _ J4.out)
  rw [Nat.zero_add] at c2
  clear c1 J3
  go_upto_region 7 with (go_at_call 141; refine (HU.out h.bits.toNat h.bits.toNat_lt _ _ J4.out (by rw [List.length_append, List.length_append, List.length_append, lowL_len, lowL_len, HP.out, HR.out]; omega)).mono ?_; rintro e W7 ⟨rfl, j1, f1⟩; have J5 : Hid (Wb W1 W7 b h.front) := j1; clear j1 f1)
  have c3 := h.nonce0 (CC.out _ _ J5.out)
  rw [Nat.zero_add] at c3
  clear c2 J4
  go_upto_region 8 with (go_at_call 141; refine (HU.out h.nonce.toNat h.nonce.toNat_lt _ _ J5.out (by rw [h.front_len]; omega)).mono ?_; rintro e W8 ⟨rfl, j1, f1⟩; have J6 : Hid (Wb W1 W8 b h.bytes) := j1; clear j1 f1)
  clear c3 J5
  go_wp2_with (go_at_call 143; refine (HW.out _ _ J6.out).mono ?_; rintro e W9 ⟨rfl, h9⟩; subst W9)
  go_ret
  exact ⟨rfl, below_next B1.out J6.out.bel⟩
end
end Go.Proofs.YtcoojkpimbddlaaGreatDoor
namespace Go.Proofs.YtcoojkpimbddlaaGreatDoor
open Go.RowKit
open Go.Deep
section
set_option maxRecDepth 10000
set_option maxHeartbeats 1000000
theorem twice_any (s : ByteArray) (hs : s.size < 2305843009213693000) (w : World) (hK : Kg w) : Calls Tryz.prog 93 #[.string s] w fun e w' => e = .returned (.agg (hc (digest (digest s.data.toList)))) ∧ Below w.heap.size w w' := by
  have HS := hide fun W hW => sum_any s hs W hW
  have hdl := digest_len s.data.toList
  generalize digest s.data.toList = D at *
  have hDz : (⟨D.toArray⟩ : ByteArray).size = 32 := by show D.toArray.size = 32; rw [List.size_toArray, hdl]
  have HT := hide fun W hW => sum_any ⟨D.toArray⟩ (by rw [hDz]; omega) W hW
  rw [show (⟨D.toArray⟩ : ByteArray).data.toList = D from rfl] at HT
  have hel := digest_len D
  generalize digest D = E at *
  have HK := hide hK
  have K2 := hide (hK.next ((Below.refl w.heap.size w).alloc (Nat.le_refl _) (.cells (hc zeros) 46)))
  clear hK hDz
  go_enter Tryz.func93, Tryz.ntmps93
  go_wp2_with (first | refine wpList_allocA A25 rfl rfl ?_ | (go_at_call_of 158 (Value.string s); refine (HS.out _ K2.out).mono ?_; rintro e w1 ⟨rfl, b1⟩; obtain ⟨n1, B1, hlt⟩ := sb_mid b1 (Nat.le_refl _); clear b1 hlt; have hcv := conv_row (w1.alloc (.cells (hc D) 46)) w1.heap.size D hdl 46 (heap_alloc_last _ _); obtain ⟨n2, B2⟩ := sb_last n1.out B1.out ((Below.refl w1.heap.size w1).alloc (Nat.le_refl _) (.cells (hc D) 46)); clear n1 B1) | refine wpList_store_newA A25 rfl _ _ rfl _ rfl (hc D) (by rw [hc_size, hdl]) (hc_one _) rfl rfl ?_ | (go_at_call_of 158 (Value.string ⟨D.toArray⟩); refine (HT.out _ (HK.out.next B2.out)).mono ?_; rintro e w3 ⟨rfl, b3⟩; obtain ⟨n3, B3⟩ := sb_last n2.out B2.out b3; clear b3) | refine wpList_storeA A25 rfl _ _ rfl _ (hc E) (by rw [hc_size, hel]) (hc_one _) rfl rfl (hc zeros) (by rw [hc_size, zeros_len]) 46 n3.out ?_)
  exact bodyPost_ret (v := .agg (hc E)) (resA A25 Tryz.results93 _ _ w.heap.size 46 _ (by rw [hc_size, hel]) rfl (setRow_heap _ _ _ _ _ _ n3.out)) rfl ⟨rfl, below_setRow B3.out (Nat.le_refl _) _⟩
end
end Go.Proofs.YtcoojkpimbddlaaGreatDoor
namespace Go.Proofs.YtcoojkpimbddlaaGreatDoor
open Go.RowKit
open Go.Deep
set_option linter.unusedVariables false
def dg2 (s : ByteArray) : List UInt8 := digest (digest s.data.toList)
theorem dg2_len (s : ByteArray) : (dg2 s).length = 32 := digest_len _
section
set_option maxRecDepth 10000
set_option maxHeartbeats 4000000
end
def Hd.id (h : Hd) : List UInt8 := dg2 (txt h.bytes)
theorem Hd.id_len (h : Hd) : h.id.length = 32 := dg2_len _
def Hd.meets (h : Hd) : Bool := mt h.id h.bits.toNat
section
set_option maxRecDepth 10000
set_option maxHeartbeats 4000000
theorem hid_any (h : Hd) (w : World) (hK : Kg w) : Calls Tryz.prog 46 #[.agg h.cells.toArray] w fun e w' => e = .returned (.agg (hc h.id)) ∧ Below w.heap.size w w' := by
  have HH := hide (fun W => head_any h W)
  have HT := hide (fun W hW => twice_any (txt h.bytes) (by rw [txt_sz, h.bytes_len]; omega) W hW)
  have s1 : (w.alloc (.cells h.cells.toArray 48)).heap.size = w.heap.size + 1 := by simp
  have R1 := hide ((Below.heap_alloc _ (.cells (hc zeros) 46) _ (lt_heap (heap_alloc_last w (.cells h.cells.toArray 48)))).trans (heap_alloc_last w (.cells h.cells.toArray 48)))
  have R2 := hide (heap_alloc_last (w.alloc (.cells h.cells.toArray 48)) (.cells (hc zeros) 46))
  have b1 := ((Below.refl w.heap.size w).alloc (Nat.le_refl _) (.cells h.cells.toArray 48)).alloc (by rw [s1]; omega) (.cells (hc zeros) 46)
  have B1 := hide b1
  have KS := hide (hK.next b1)
  have CZ := hide h.size
  have IL := hide h.id_len
  rw [s1] at R2
  rw [show digest (digest (txt h.bytes).data.toList) = h.id from rfl] at HT
  clear b1 hK
  generalize h.cells.toArray = C at *
  generalize h.id = D at *
  generalize txt h.bytes = T at *
  go_enter Tryz.func46, Tryz.ntmps46
  go_upto_region 1 with ((with_reducible refine at_list ?_); first | refine wpList_boxA rfl _ rfl C rfl ?_ | refine wpList_allocA A25 rfl rfl ?_)
  try rw [s1]
  clear s1
  generalize (w.alloc (.cells C 48)).alloc (.cells (hc zeros) 46) = W0 at *
  go_wp2_with (first | (go_at_call 108; refine (HH.out _).mono ?_; rintro r W1 ⟨rfl, be⟩; have D1 := hide be; clear be) | (go_at_call 93; refine (HT.out _ (KS.out.next D1.out)).mono ?_; rintro r W2 ⟨rfl, be⟩; have D2 := hide (below_next D1.out be); clear be; have R3 := hide ((D2.out.block _ (lt_heap R2.out)).trans R2.out)) | ((with_reducible refine at_list ?_); first | refine wpList_loadS AHd _ rfl w.heap.size rfl C CZ.out 48 R1.out (by rfl) ?_ | refine wpList_storeA A25 rfl _ _ rfl (w.heap.size + 1) (hc D) (by rw [hc_size, IL.out]) (hc_one _) rfl rfl (hc zeros) (by rw [hc_size, zeros_len]) 46 R3.out ?_))
  exact bodyPost_ret (v := .agg (hc D)) (resA A25 Tryz.results46 _ _ (w.heap.size + 1) 46 _ (by rw [hc_size, IL.out]) rfl (setRow_heap _ _ _ _ _ _ R3.out)) rfl ⟨rfl, below_setRow (below_next B1.out D2.out) (by omega) _⟩
theorem idBehind_any (b : Nat) (t : List UInt8) (n : Nat) (hn : n < 4294967296) (w : World) (hK : Kg w) (hs : t.length < 1000000) (h : Hat w b t) : Calls Tryz.prog 119 #[.pointer (some ⟨b, 0, none⟩), .int .u32 (n : Int)] w fun e w' => e = .returned (.agg (hc (digest (digest (t ++ lowL n 4))))) ∧ Below w.heap.size w w' := by
  have b0 := (Below.refl w.heap.size w).alloc (Nat.le_refl _) (.cells (hc zeros) 46)
  have R0 := hide (heap_alloc_last w (.cells (hc zeros) 46))
  have B0 := hide b0
  have H0 := hide (h.below b0)
  have KS := hide (hK.next b0)
  have HS := hide hs
  have LN := hide (lowL_len n 4)
  have hD := hide (digest_len (t ++ lowL n 4))
  have hE := hide (digest_len (digest (t ++ lowL n 4)))
  have TD : Hid ((txt (lowL n 4)).data.toList = lowL n 4) := rfl
  clear b0 hK h hs
  go_enter Tryz.func119, Tryz.ntmps119
  go_upto_region 1 with ((with_reducible refine at_list ?_); refine wpList_allocA A25 rfl rfl ?_)
  generalize w.alloc (.cells (hc zeros) 46) = W0 at *
  go_upto_region 2 with (go_at_call 140; refine (newWriter_any _).mono ?_; rintro e W2 ⟨rfl, rfl⟩)
  have J0 := hide (Wb.new W0)
  generalize W0.alloc (.cells #[.slice none 0 0] 323) = W1 at *
  generalize hb : W0.heap.size = c at *
  go_upto_region 3 with (go_at_call 141; refine (wU32 (pb c) [] n hn _ (by simp) J0.out.st).mono ?_; rintro e W2 ⟨rfl, j1, f1⟩; have J1 := hide (J0.out.step j1 f1); clear j1 f1)
  rw [List.nil_append] at J1
  clear J0
  have H1 := hide (H0.out.below J1.out.bel)
  go_upto_region 4 with (go_at_call 194; refine (clone_any b t _ H1.out).mono ?_; rintro e W3 ⟨b3, rfl, h3, be, hb3⟩; have H3 := hide h3; have J2 := hide (J1.out.next be); have G3 := hide hb3; clear h3 be hb3)
  have D3 := hide (show Below W0.heap.size W0 W3 from J2.out.bel)
  have N3 : Hid (b3 ≠ 0 ∧ W0.heap.size ≤ b3) := ⟨by have := KS.out.lt; have := G3.out; have := J1.out.bel.size; omega, by have := G3.out; have := J1.out.bel.size; omega⟩
  go_upto_region 5 with (first | (go_at_call 143; refine (wText c (lowL n 4) _ J2.out.st).mono ?_; rintro e W9 ⟨rfl, h9⟩; subst W9) | (go_at_call 117; refine (write_any b3 t (txt (lowL n 4)) _ (KS.out.next D3.out) N3.out.1 (by have := HS.out; rw [txt_sz, LN.out]; omega) H3.out).mono ?_; rintro e W4 ⟨rfl, h4, f4⟩; have H4 := hide h4; have D4 := hide (D3.out.trans (f4.to_below N3.out.2 D3.out.size)); clear h4 f4))
  rw [TD.out] at H4
  clear J1 J2 H1 H3 D3 G3 H0
  go_upto_region 6 with (first | (go_at_call 195; refine (hsum_any b3 (t ++ lowL n 4) _ (KS.out.next D4.out) (by have := HS.out; rw [List.length_append, LN.out]; omega) H4.out).mono ?_; rintro e W5 ⟨rfl, be⟩; have D5 := hide (below_next D4.out be); clear be) | ((with_reducible refine at_list ?_); first | refine wpList_allocA A25 rfl rfl ?_ | refine wpList_store_newA A25 rfl _ _ rfl _ rfl (hc (digest (t ++ lowL n 4))) (by rw [hc_size, hD.out]) (hc_one _) rfl rfl ?_))
  generalize hde : digest (t ++ lowL n 4) = D at *
  have HDE := hide hde
  clear hde
  have hcv := conv_row (W5.alloc (.cells (hc D) 46)) W5.heap.size D hD.out 46 (heap_alloc_last _ _)
  have D6 := hide (below_next D5.out ((Below.refl W5.heap.size W5).alloc (Nat.le_refl _) (.cells (hc D) 46)))
  have HT := hide fun W hW => sum_any ⟨D.toArray⟩ (by show D.toArray.size < _; rw [List.size_toArray, hD.out]; omega) W hW
  rw [show (⟨D.toArray⟩ : ByteArray).data.toList = D from rfl] at HT
  generalize hee : digest D = E at *
  have HEE := hide hee
  clear hee
  clear D5 D4 H4
  generalize W5.alloc (.cells (hc D) 46) = W6 at *
  generalize W5.heap.size = g7 at *
  go_wp2_with (first | (go_at_call 158; refine (HT.out _ (KS.out.next D6.out)).mono ?_; rintro r W7 ⟨rfl, be⟩; have D7 := hide (below_next D6.out be); clear be; have R7 := hide ((D7.out.block _ (lt_heap R0.out)).trans R0.out)) | ((with_reducible refine at_list ?_); refine wpList_storeA A25 rfl _ _ rfl w.heap.size (hc E) (by rw [hc_size, hE.out]) (hc_one _) rfl rfl (hc zeros) (by rw [hc_size, zeros_len]) 46 R7.out ?_))
  exact bodyPost_ret (v := .agg (hc E)) (resA A25 Tryz.results119 _ _ w.heap.size 46 _ (by rw [hc_size, hE.out]) rfl (setRow_heap _ _ _ _ _ _ R7.out)) rfl ⟨by rw [HDE.out, HEE.out], below_setRow (below_next B0.out D7.out) (Nat.le_refl _) _⟩
end
def Hd.at (h : Hd) (j : Nat) : Hd := { h with nonce := UInt32.ofNat j }
theorem ofNat_lt (j : Nat) (hj : j < 4294967296) : (UInt32.ofNat j).toNat = j := by
  rw [UInt32.toNat_ofNat', Nat.mod_eq_of_lt hj]
theorem Hd.at_id (h : Hd) (j : Nat) (hj : j < 4294967296) : (h.at j).id = digest (digest (h.front ++ lowL j 4)) := by
  show digest (digest (h.front ++ lowL (UInt32.ofNat j).toNat 4)) = _
  rw [ofNat_lt j hj]
theorem Hd.at_set (h : Hd) (i j : Nat) (hj : j < 4294967296) : (h.at i).cells.toArray.setIfInBounds 67 (.int .u32 (j : Int)) = (h.at j).cells.toArray := by
  have hl : (cellsL h.prev).length = 32 := by rw [cellsL_len, h.hp]
  have hm : (cellsL h.root).length = 32 := by rw [cellsL_len, h.hr]
  rw [List.setIfInBounds_toArray]
  congr 1
  show (Value.int .u32 (h.ver.toNat : Int) :: (cellsL h.prev ++ (cellsL h.root ++ [.int .u32 (h.time.toNat : Int), .int .u32 (h.bits.toNat : Int), .int .u32 ((UInt32.ofNat i).toNat : Int)]))).set 67 _ = Value.int .u32 (h.ver.toNat : Int) :: (cellsL h.prev ++ (cellsL h.root ++ [.int .u32 (h.time.toNat : Int), .int .u32 (h.bits.toNat : Int), .int .u32 ((UInt32.ofNat j).toNat : Int)]))
  rw [ofNat_lt j hj, List.set_cons_succ, List.set_append_right _ _ (by omega), hl, List.set_append_right _ _ (by omega), hm]
  rfl
theorem Hd.cut (h : Hd) : ((txt h.bytes).extract 0 76).data.toList = h.front := by
  have : ((txt h.bytes).extract 0 76).data.toList = (h.bytes.drop 0).take 76 := by
    simp [ByteArray.data_extract, txt, List.extract_eq_take_drop]
  rw [this, List.drop_zero, Hd.bytes, List.take_append_of_le_length (by rw [h.front_len]; omega), List.take_of_length_le (by rw [h.front_len]; omega)]
structure Mj (w W : World) (h : Hd) (g2 g4 g9 bf i : Nat) : Prop where
  r2 : W.heap[g2]? = some (.cells h.cells.toArray 48 (0, 0))
  r4 : W.heap[g4]? = some (.cells zHd.cells.toArray 48 (0, 0))
  r9 : W.heap[g9]? = some (.cells (h.at i).cells.toArray 48 (0, 0))
  hat : Hat W bf h.front
  bel : Below w.heap.size w W
  k : Kg W
  n2 : g2 ≠ g9
  n4 : g4 ≠ g9
  nb : bf ≠ g9
  l4 : w.heap.size ≤ g4
  l9 : w.heap.size ≤ g9
theorem Mj.next {w W W' : World} {h : Hd} {g2 g4 g9 bf i : Nat} (m : Mj w W h g2 g4 g9 bf i) (b : Below W.heap.size W W') : Mj w W' h g2 g4 g9 bf i :=
  ⟨(b.block _ (lt_heap m.r2)).trans m.r2, (b.block _ (lt_heap m.r4)).trans m.r4, (b.block _ (lt_heap m.r9)).trans m.r9, m.hat.below b, below_next m.bel b, m.k.next b, m.n2, m.n4, m.nb, m.l4, m.l9⟩
theorem Mj.set {w W : World} {h : Hd} {g2 g4 g9 bf i : Nat} (m : Mj w W h g2 g4 g9 bf i) (j : Nat) (hj : j < 4294967296) (hw : 0 < w.heap.size) : Mj w (W.setCell ⟨g9, 67, none⟩ (.int .u32 (j : Int))) h g2 g4 g9 bf j := by
  have fr := Rfr.setCell g9 W 67 (.int .u32 (j : Int))
  refine ⟨(fr.block _ (lt_heap m.r2) m.n2).trans m.r2, (fr.block _ (lt_heap m.r4) m.n4).trans m.r4, ?_, m.hat.rfr m.nb fr, m.bel.trans (fr.to_below m.l9 m.bel.size), m.k.rfr (by have := m.l9; omega) fr, m.n2, m.n4, m.nb, m.l4, m.l9⟩
  rw [heap_setCell_same W g9 67 _ _ _ m.r9, h.at_set i j hj]
section
set_option maxRecDepth 10000
set_option maxHeartbeats 4000000
theorem mine_yes (h : Hd) (hn0 : h.nonce = 0) (k : Nat) (hk : k < 4294967296) (hno : ∀ j, j < k → (h.at j).meets = false) (hyes : (h.at k).meets = true) (w : World) (hK : Kg w) : Calls Tryz.prog 52 #[.agg h.cells.toArray, .int .u64 4294967296] w fun e w' => e = .returned (.tuple #[.agg (h.at k).cells.toArray, .bool true]) ∧ Below w.heap.size w w' := by
  have hok : okB h.bits.toNat = true := by
    have := hyes
    unfold Hd.meets mt at this
    rw [Bool.and_eq_true] at this
    exact this.1
  have s1 : (w.alloc (.cells h.cells.toArray 48)).heap.size = w.heap.size + 1 := by simp
  have r1 := (Below.heap_alloc _ (.cells zHd.cells.toArray 48) _ (lt_heap (heap_alloc_last w (.cells h.cells.toArray 48)))).trans (heap_alloc_last w (.cells h.cells.toArray 48))
  have r2 := heap_alloc_last (w.alloc (.cells h.cells.toArray 48)) (.cells zHd.cells.toArray 48)
  have b1 := ((Below.refl w.heap.size w).alloc (Nat.le_refl _) (.cells h.cells.toArray 48)).alloc (by rw [s1]; omega) (.cells zHd.cells.toArray 48)
  rw [s1] at r2
  have B1 := hide b1
  have R1 := hide r1
  have R2 := hide r2
  have KW := hide hK.lt
  have KS := hide (hK.next b1)
  have CZ := hide h.size
  have H0 : Hid (h.at 0 = h) := by
    show h.at 0 = h
    unfold Hd.at
    rw [show UInt32.ofNat 0 = (0 : UInt32) from rfl, ← hn0]
  have HX := hide (fun W => expand_yes h.bits.toNat h.bits.toNat_lt hok W)
  have HH := hide (fun W => head_any h W)
  have HN := hide (fun W => new_any W)
  have HCUT := hide h.cut
  have FL := hide h.front_len
  have TZ : (txt h.bytes).size = 80 := by rw [txt_sz, h.bytes_len]
  have HNO := hide hno
  have HYES := hide hyes
  have HI : Hid (∀ (j : Nat) (hj : j < 4294967296) (W : World) (bf : Nat), Kg W → Hat W bf h.front → Calls Tryz.prog 119 #[.pointer (some ⟨bf, 0, none⟩), .int .u32 (j : Int)] W fun e w' => e = .returned (.agg (hc (h.at j).id)) ∧ Below W.heap.size W w') := fun j hj W bf k hh => by
    rw [h.at_id j hj]
    exact idBehind_any bf h.front j hj W k (by rw [h.front_len]; omega) hh
  have HM : Hid (∀ (j : Nat) (W : World), Calls Tryz.prog 118 #[.agg (hc (h.at j).id), .int .u32 (h.bits.toNat : Int)] W fun e w' => e = .returned (.bool (h.at j).meets) ∧ Below W.heap.size W w') := fun j W => meets_any (h.at j).id (h.at j).id_len h.bits.toNat h.bits.toNat_lt W
  have RC : Hid (∀ (W : World) (g : Nat), W.heap[g]? = some (.cells h.cells.toArray 48 (0, 0)) → W.cell? ⟨g, 66, none⟩ = some (.int .u32 (h.bits.toNat : Int)) ∧ W.cell? ⟨g, 67, none⟩ = some (.int .u32 0)) := fun W g e => by
    have q1 := h.bits0 (rowAt _ e)
    have q2 := h.nonce0 (rowAt _ e)
    rw [Nat.zero_add] at q1 q2
    rw [hn0] at q2
    exact ⟨q1, q2⟩
  have c1 := (RC.out _ _ R1.out).1
  clear b1 r1 r2 hK hok hn0 hno hyes
  generalize tgt h.bits.toNat = TG at *
  generalize hB : h.bits.toNat = NB at *
  have HA := hide (fun j => (h.at j).size)
  have HAl := hide (fun j => (h.at j).all)
  go_enter Tryz.func52, Tryz.ntmps52
  go_upto_region 1 with ((with_reducible refine at_list ?_); first | refine wpList_boxA rfl _ rfl h.cells.toArray rfl ?_ | refine wpList_allocA AHd rfl rfl ?_)
  try rw [s1]
  clear s1
  generalize (w.alloc (.cells h.cells.toArray 48)).alloc (.cells zHd.cells.toArray 48) = W0 at *
  go_upto_region 2 with (first | (go_at_call 109; refine (HX.out _).mono ?_; rintro r W1 ⟨rfl, be⟩; have D1 := hide be; clear be) | ((with_reducible refine at_list ?_); first | refine wpList_allocA AW rfl rfl ?_ | refine wpList_store_newA AW rfl _ _ rfl _ rfl (wn TG) (wn_size _) (wn_one _) rfl rfl ?_))
  have D2 := hide (below_next D1.out ((Below.refl W1.heap.size W1).alloc (Nat.le_refl _) (.cells (wn TG) 51)))
  clear c1 D1
  generalize W1.alloc (.cells (wn TG) 51) = W2 at *
  generalize W1.heap.size = g6 at *
  go_upto_region 4 with fail
  go_upto_region 5 with (go_at_call 116; refine (HN.out _).mono ?_; rintro r W3 ⟨bf, rfl, h3, be, hb3⟩; have H3 := hide h3; have G3 := hide (Nat.le_trans D2.out.size hb3); have D3 := hide (below_next D2.out be); clear h3 be hb3)
  have R3 := hide ((D3.out.block _ (lt_heap R1.out)).trans R1.out)
  go_upto_region 6 with (first | (go_at_call 108; refine (HH.out _).mono ?_; rintro r W4 ⟨rfl, be⟩; have D4 := hide (below_next D3.out be); have H4 := hide (H3.out.below be); clear be) | (go_at_call 117; refine (write_any bf [] ((txt h.bytes).extract 0 76) _ (KS.out.next D4.out) (by have := G3.out; have := KS.out.lt; omega) (by simp; omega) H4.out).mono ?_; rintro r W5 ⟨rfl, h5, f5⟩; have H5 := hide h5; have D5 := hide (D4.out.trans (f5.to_below G3.out D4.out.size)); clear h5 f5) | ((with_reducible refine at_list ?_); refine wpList_loadS AHd _ rfl w.heap.size rfl h.cells.toArray CZ.out 48 R3.out (by rfl) ?_))
  have R5 := hide ((D5.out.block _ (lt_heap R1.out)).trans R1.out)
  have R5b := hide ((D5.out.block _ (lt_heap R2.out)).trans R2.out)
  rw [List.nil_append, HCUT.out] at H5
  clear H3 H4 R3 D3 D4 D2 HX HH HN HCUT FL TZ
  go_upto_region 7 with ((with_reducible refine at_list ?_); first | refine wpList_loadS AHd _ rfl w.heap.size rfl h.cells.toArray CZ.out 48 R5.out (by rfl) ?_ | refine wpList_allocA AHd rfl rfl ?_ | refine wpList_store_newA AHd rfl _ _ rfl _ rfl h.cells.toArray CZ.out (h.all) rfl rfl ?_)
  have J0 : Hid (Mj w (W5.alloc (.cells h.cells.toArray 48)) h w.heap.size (w.heap.size + 1) W5.heap.size bf 0) := by
    have bb := (Below.refl W5.heap.size W5).alloc (Nat.le_refl _) (.cells h.cells.toArray 48)
    have l1 := lt_heap R5.out
    have l2 := lt_heap R5b.out
    have l3 := H5.out.lt
    refine ⟨(bb.block _ l1).trans R5.out, (bb.block _ l2).trans R5b.out, ?_, H5.out.below bb, below_next B1.out (below_next D5.out bb), KS.out.next (below_next D5.out bb), by omega, by omega, by omega, by omega, by omega⟩
    rw [H0.out]
    exact heap_alloc_last _ _
  clear R5 R5b H5 D5
  generalize W5.alloc (.cells h.cells.toArray 48) = W6 at *
  generalize W5.heap.size = g9 at *
  have c2 := (RC.out _ _ J0.out.r2).2
  go_upto_region 9 with fail
  clear c2
  go_loopw [11] (fun i wr => ∃ j : Nat, j ≤ k ∧ i = .int .u64 (j : Int) ∧ ∃ p : Nat, Hid (Mj w wr h w.heap.size (w.heap.size + 1) g9 bf p)) (fun i _ => (k + 1 - intOf i).toNat)
  case atStart => exact ⟨0, Nat.zero_le _, rfl, 0, J0⟩
  case round =>
    clear J0
    obtain ⟨j, hj, rfl, p, J⟩ := hrel
    have hj2 := hide (show j < 4294967296 by omega)
    have h1 : decide ((j : Int) < 4294967296) = true := decide_eq_true (by omega)
    have h1' : (j : Int) < 4294967296 := by omega
    have e1 : IntKind.u32.wrap (j : Int) = (j : Int) := by rw [IntKind.wrap_u32]; omega
    have e2 : IntKind.u64.wrap ((j : Int) + 1) = (j : Int) + 1 := wrapu _ (by omega) (by omega)
    have MS := hide (show ((k : Int) + 1 - ((j : Int) + 1)).toNat < ((k : Int) + 1 - (j : Int)).toNat by omega)
    have JK := hide hj
    clear hj hk
    have J1 := hide (J.out.set j hj2.out KW.out)
    have c4 : wr.cell? ⟨g9, 67, none⟩ = some (.int .u32 ((h.at p).nonce.toNat : Int)) := by
      have q2 := (h.at p).nonce0 (rowAt _ J.out.r9)
      rwa [Nat.zero_add] at q2
    have f4 := frozen_of_row wr g9 67 _ _ J.out.r9
    clear J
    go_upto_region 12 with fail
    clear c4 f4 h1 h1' e1
    generalize wr.setCell ⟨g9, 67, none⟩ (.int .u32 (j : Int)) = W7 at *
    have CN : Hid (∀ W, Below W7.heap.size W7 W → W.cell? ⟨g9, 67, none⟩ = some (.int .u32 (j : Int)) ∧ W.cell? ⟨w.heap.size, 66, none⟩ = some (.int .u32 (NB : Int))) := fun W b => by
      have q := J1.out.next b
      have q2 := (h.at j).nonce0 (rowAt _ q.r9)
      rw [Nat.zero_add, show (h.at j).nonce = UInt32.ofNat j from rfl, ofNat_lt j hj2.out] at q2
      exact ⟨q2, (RC.out _ _ q.r2).1⟩
    have DV1 := hide ((Below.refl W7.heap.size W7).drew)
    have HIj := hide (fun W => HI.out j hj2.out W bf)
    have HMj := hide (fun W => HM.out j W)
    have NN := hide (fun (h : j < k) => HNO.out j h)
    generalize hV : (h.at j).meets = V at *
    generalize (h.at j).id = ID at *
    refine wp_region_held_drew (S := fun W => Below W7.heap.size W7 W) (by kernel_rfl) DV1.out (fun hH => ?_)
    generalize hWd : W7.drew = V1 at *
    clear hWd
    refine wt (i := 0) (v := (.pointer (some ⟨bf, 0, none⟩))) rfl (yl_move (by rfl) _ (by rfl) _ (by rfl)) hH ?_
    change wpAnyH _ _ _ _ _ _ _ (Act.put _ (some 46) _) _
    simp only [Act.put, s0, s1, s2]
    refine wt (i := 1) (v := (.pointer (some ⟨g9, 67, none⟩))) rfl (.inl ⟨by rfl, fun W _ => by go_simp⟩) hH ?_
    change wpAnyH _ _ _ _ _ _ _ (Act.put _ (some 47) _) _
    simp only [Act.put, s0, s1, s2]
    refine wt (i := 2) (v := (.int .u32 (j : Int))) rfl (.inl ⟨by rfl, fun W hS => by have c4 := (CN.out W hS).1; go_simp⟩) hH ?_
    change wpAnyH _ _ _ _ _ _ _ (Act.put _ (some 48) _) _
    simp only [Act.put, s0, s1, s2]
    refine wt (i := 4) (v := (.pointer (some ⟨w.heap.size, 66, none⟩))) rfl (.inl ⟨by rfl, fun W _ => by go_simp⟩) hH ?_
    change wpAnyH _ _ _ _ _ _ _ (Act.put _ (some 50) _) _
    simp only [Act.put, s0, s1, s2]
    refine wt (i := 5) (v := (.int .u32 (NB : Int))) rfl (.inl ⟨by rfl, fun W hS => by have c4 := (CN.out W hS).2; go_simp⟩) hH ?_
    change wpAnyH _ _ _ _ _ _ _ (Act.put _ (some 51) _) _
    simp only [Act.put, s0, s1, s2]
    refine wpAnyH_ready (rs := [3]) (by kernel_rfl) (by simp) (AllReadyH.cons rfl (fun K1 hK1 => ?_) AllReadyH.nil)
    go_simp
    refine (HIj.out V1 (J1.out.next DV1.out).k (J1.out.next DV1.out).hat).mono ?_
    rintro r V2 ⟨rfl, be⟩
    have DV2 := hide (below_next DV1.out be)
    clear be
    refine hK1.out _ _ DV2.out (fun hH => ?_)
    clear hK1
    refine wpAnyH_ready (rs := [6]) (by kernel_rfl) (by simp) (AllReadyH.cons rfl (fun K1 hK1 => ?_) AllReadyH.nil)
    go_simp
    refine (HMj.out V2).mono ?_
    rintro r V3 ⟨rfl, be⟩
    have DV3 := hide (below_next DV2.out be)
    clear be
    refine hK1.out _ _ DV3.out (fun hH => ?_)
    clear hK1
    refine wpAnyH_done (by kernel_rfl) ?_ _
    clear hH
    have J3 := hide (J1.out.next DV3.out)
    have HVV := hide hV
    clear hV CN HIj HMj DV1 DV2 DV3 J1
    by_cases hjk : j < k
    · have e3 := NN.out hjk
      subst e3
      have JK2 := hide (show j + 1 ≤ k by omega)
      clear hjk
      go_wp2
      exact ⟨⟨j + 1, JK2.out, by go_num, j, J3⟩, by simpa [intOf] using MS.out⟩
    · have ejk : j = k := by have := JK.out; omega
      subst ejk
      have e3 : V = true := HVV.out.symm.trans HYES.out
      subst e3
      have R9 := hide J3.out.r9
      have R4 := hide J3.out.r4
      have HS9 := hide (HA.out j)
      have HL9 := hide (HAl.out j)
      generalize hCJ : (h.at j).cells.toArray = CJ at *
      have HCJ := hide hCJ
      clear hCJ
      go_wp2_with ((with_reducible refine at_list ?_); first | refine wpList_loadS AHd _ rfl g9 rfl CJ HS9.out 48 R9.out (by rfl) ?_ | refine wpList_storeA AHd rfl _ _ rfl (w.heap.size + 1) CJ HS9.out HL9.out rfl rfl zHd.cells.toArray zHd.size 48 R4.out ?_)
      exact bodyPost_ret (v := .tuple #[.agg CJ, .bool true]) (resA2K AHd Tryz.results52 _ _ (w.heap.size + 1) 48 _ HS9.out rfl (setRow_heap _ _ _ _ _ _ R4.out) _ rfl) rfl ⟨by rw [HCJ.out], below_setRow J3.out.bel (by omega) _⟩
end
end Go.Proofs.YtcoojkpimbddlaaGreatDoor
