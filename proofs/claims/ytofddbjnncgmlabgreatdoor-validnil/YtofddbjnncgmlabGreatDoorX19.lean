/- Headers: their cells and bytes; the contracts of block.Head, block.ID, block.Meets. The digest: the contracts of Twice and of the document's Twice. Locks and keys: tx.Lock, tx.Opens, the document's Opens: their contracts. The contracts of block.ID, block.Meets and block.idBehind. -/
import Derived.Test.YtofddbjnncgmlabGreatDoorX12
import Derived.Test.YtofddbjnncgmlabGreatDoorX18
import Derived.Test.YtofddbjnncgmlabGreatDoorX06
import Derived.Test.YtofddbjnncgmlabGreatDoorX10
namespace Go.Proofs.YtofddbjnncgmlabGreatDoor
open Go.RowKit
open Go.Deep
set_option linter.unusedVariables false
/-- A header. -/
structure Hd where
  ver : UInt32
  prev : List UInt8
  root : List UInt8
  time : UInt32
  bits : UInt32
  nonce : UInt32
  hp : prev.length = 32
  hr : root.length = 32
def Hd.cells (h : Hd) : List Value := .int .u32 (h.ver.toNat : Int) :: (cellsL h.prev ++ (cellsL h.root ++ [.int .u32 (h.time.toNat : Int), .int .u32 (h.bits.toNat : Int), .int .u32 (h.nonce.toNat : Int)]))
def Hd.front (h : Hd) : List UInt8 := lowL h.ver.toNat 4 ++ h.prev ++ h.root ++ lowL h.time.toNat 4 ++ lowL h.bits.toNat 4
def Hd.bytes (h : Hd) : List UInt8 := h.front ++ lowL h.nonce.toNat 4
theorem Hd.front_len (h : Hd) : h.front.length = 76 := by
  rw [Hd.front]
  simp only [List.length_append, lowL_len, h.hp, h.hr]
theorem Hd.bytes_len (h : Hd) : h.bytes.length = 80 := by
  rw [Hd.bytes]
  simp only [List.length_append, lowL_len, h.front_len]
theorem Hd.len (h : Hd) : h.cells.length = 68 := by
  rw [Hd.cells]
  simp only [List.length_cons, List.length_append, cellsL_len, h.hp, h.hr, List.length_nil]
theorem Hd.size (h : Hd) : h.cells.toArray.size = 68 := by rw [List.size_toArray, h.len]
theorem Hd.one (h : Hd) : ∀ v ∈ h.cells, v.oneCell' = true := by
  intro v hv
  simp only [Hd.cells, List.mem_cons, List.mem_append, List.not_mem_nil, or_false] at hv
  rcases hv with rfl | hv | hv | rfl | rfl | rfl
  · rfl
  · simp only [cellsL, List.mem_map] at hv; obtain ⟨x, _, rfl⟩ := hv; rfl
  · simp only [cellsL, List.mem_map] at hv; obtain ⟨x, _, rfl⟩ := hv; rfl
  · rfl
  · rfl
  · rfl
theorem Hd.all (h : Hd) : h.cells.toArray.all (·.oneCell') = true := by
  rw [Array.all_eq_true_iff_forall_mem]
  intro v hv
  exact h.one v (by simpa using hv)
def zHd : Hd := ⟨0, zeros, zeros, 0, 0, 0, zeros_len, zeros_len⟩
theorem AHd : Arr 27 68 zHd.cells.toArray := ⟨.inr ⟨_, Tryz.underlying27⟩, by kernel_rfl, fun w => by kernel_rfl, fun w => by kernel_rfl, by rw [List.size_toArray, Hd.len]⟩
/-! ### a header's cells -/
theorem Hd.get0 (h : Hd) : h.cells[0]? = some (.int .u32 (h.ver.toNat : Int)) := rfl
theorem Hd.getP (h : Hd) (j : Nat) (v : Value) (hv : (cellsL h.prev)[j]? = some v) : h.cells[1 + j]? = some v := by
  rw [Hd.cells, Nat.add_comm, List.getElem?_cons_succ, List.getElem?_append_left (List.getElem?_eq_some_iff.1 hv).1]
  exact hv
theorem Hd.getR (h : Hd) (j : Nat) (v : Value) (hv : (cellsL h.root)[j]? = some v) : h.cells[33 + j]? = some v := by
  have hl : (cellsL h.prev).length = 32 := by rw [cellsL_len, h.hp]
  rw [Hd.cells, show 33 + j = (32 + j) + 1 by omega, List.getElem?_cons_succ, List.getElem?_append_right (by omega), hl, show 32 + j - 32 = j by omega, List.getElem?_append_left (List.getElem?_eq_some_iff.1 hv).1]
  exact hv
theorem Hd.getL (h : Hd) (j : Nat) : h.cells[65 + j]? = [Value.int .u32 (h.time.toNat : Int), .int .u32 (h.bits.toNat : Int), .int .u32 (h.nonce.toNat : Int)][j]? := by
  have hl : (cellsL h.prev).length = 32 := by rw [cellsL_len, h.hp]
  have hm : (cellsL h.root).length = 32 := by rw [cellsL_len, h.hr]
  rw [Hd.cells, show 65 + j = (64 + j) + 1 by omega, List.getElem?_cons_succ, List.getElem?_append_right (by omega), hl, List.getElem?_append_right (by omega), hm, show 64 + j - 32 - 32 = j by omega]
section
variable {W : World} {g off : Nat} (h : Hd) (r : W.rangeAt g off h.cells)
include r
theorem Hd.ver0 : W.cell? ⟨g, off, none⟩ = some (.int .u32 (h.ver.toNat : Int)) := r 0 _ h.get0
theorem Hd.prevR : W.rangeAt g (off + 1) (cellsL h.prev) := fun j v hv => by rw [Nat.add_assoc]; exact r _ _ (h.getP j v hv)
theorem Hd.rootR : W.rangeAt g (off + 33) (cellsL h.root) := fun j v hv => by rw [Nat.add_assoc]; exact r _ _ (h.getR j v hv)
theorem Hd.time0 : W.cell? ⟨g, off + 65, none⟩ = some (.int .u32 (h.time.toNat : Int)) := r 65 _ (h.getL 0)
theorem Hd.bits0 : W.cell? ⟨g, off + 66, none⟩ = some (.int .u32 (h.bits.toNat : Int)) := r 66 _ (h.getL 1)
theorem Hd.nonce0 : W.cell? ⟨g, off + 67, none⟩ = some (.int .u32 (h.nonce.toNat : Int)) := r 67 _ (h.getL 2)
end
theorem wpLoadHd {w : World} {ops : Array Oper} {rest : List Oper} {o : Oper} {a : Act} {Q : Exit → Act → World → Prop} (x : Operand) (ho : o.op = .load 27 x) (g off : Nat) (hx : a.eval x = .pointer (some ⟨g, off, none⟩)) (y : Hd) (hr : w.rangeAt g off y.cells) (hw : Region.wanted o (yielded ops a.tmps) = true)
    (h : wpList Tryz.prog ops Q rest (a.put o.dst (.agg y.cells.toArray)) w) : wpList Tryz.prog ops Q (o :: rest) a w := by
  have ld : (Instr.loadAt 27 (.pointer (some ⟨g, off, none⟩))).run Tryz.prog w = .ok (.agg y.cells.toArray) w :=
    run_loadAt_mid w g off 27 _ _ hr Tryz.underlying27 rfl (by rw [y.len]; kernel_rfl)
  refine wpList_step fun K hK => ?_
  rw [if_pos hw]
  unfold Oper.wp execOp
  simp only [ho, hx, ld, Sem.run_bind, Result.andThen_ok, Sem.run_pure]
  exact hK _ _ h
theorem wpLoadH25 {w : World} {ops : Array Oper} {rest : List Oper} {o : Oper} {a : Act} {Q : Exit → Act → World → Prop} (x : Operand) (ho : o.op = .load 25 x) (g off : Nat) (hx : a.eval x = .pointer (some ⟨g, off, none⟩)) (y : List UInt8) (hy : y.length = 32) (hr : w.rangeAt g off (cellsL y)) (hw : Region.wanted o (yielded ops a.tmps) = true)
    (h : wpList Tryz.prog ops Q rest (a.put o.dst (.agg (hc y))) w) : wpList Tryz.prog ops Q (o :: rest) a w := by
  have ld : (Instr.loadAt 25 (.pointer (some ⟨g, off, none⟩))).run Tryz.prog w = .ok (.agg (hc y)) w :=
    run_loadAt_mid w g off 25 _ _ hr Tryz.underlying25 rfl (by rw [cellsL_len, hy]; kernel_rfl)
  refine wpList_step fun K hK => ?_
  rw [if_pos hw]
  unfold Oper.wp execOp
  simp only [ho, hx, ld, Sem.run_bind, Result.andThen_ok, Sem.run_pure]
  exact hK _ _ h
section
set_option maxRecDepth 10000
set_option maxHeartbeats 4000000
theorem head_any (h : Hd) (w : World) : Calls Tryz.prog 62 #[.agg h.cells.toArray] w fun e w' => e = .returned (.string (txt h.bytes)) ∧ Below w.heap.size w w' := by
  have b1 := (Below.refl w.heap.size w).alloc (Nat.le_refl _) (.cells h.cells.toArray 27)
  have R1 := hide (heap_alloc_last w (.cells h.cells.toArray 27))
  have B1 := hide b1
  clear b1
  have hsz := hide h.size
  have RR : Hid (∀ W : World, W.heap[w.heap.size]? = some (.cells h.cells.toArray 27 (0, 0)) → W.rangeAt w.heap.size 0 h.cells) := fun W e => by
    have := rowAt _ e
    simpa using this
  generalize hC : h.cells.toArray = C at *
  go_enter Tryz.func62, Tryz.ntmps62
  go_upto_region 1 with ((with_reducible refine at_list ?_); refine wpList_boxA rfl _ rfl C rfl ?_)
  generalize w.alloc (.cells C 27) = W1 at *
  go_upto_region 2 with (go_at_call 55; refine (newWriter_any _).mono ?_; rintro e W2 ⟨rfl, rfl⟩)
  have J0 := hide (Wb.new W1)
  generalize W1.alloc (.cells #[.slice none 0 0] 193) = W2 at *
  generalize hb : W1.heap.size = b at *
  have CC : Hid (∀ W l, Wb W1 W b l → W.rangeAt w.heap.size 0 h.cells) := fun W l j => RR.out W ((j.bel.block _ (by rw [hb]; have := lt_heap R1.out; omega)).trans R1.out)
  have HU : Hid (∀ n : Nat, n < 4294967296 → ∀ l W, Wb W1 W b l → l.length ≤ 35184372088832 → Calls Tryz.prog 57 #[pb b, .int .u32 (n : Int)] W fun e w' => e = .returned (.tuple #[]) ∧ Wb W1 w' b (l ++ lowL n 4) ∧ Wfr W w' (pb b)) := fun n hn l W j hl => (wU32 (pb b) l n hn W hl j.st).mono fun e w' ⟨h1, h2, h3⟩ => ⟨h1, j.step h2 h3, h3⟩
  have HH : Hid (∀ h : List UInt8, h.length = 32 → ∀ l W, Wb W1 W b l → l.length ≤ 35184372088832 → Calls Tryz.prog 56 #[pb b, .agg (hc h)] W fun e w' => e = .returned (.tuple #[]) ∧ Wb W1 w' b (l ++ h) ∧ Wfr W w' (pb b)) := fun h hh l W j hl => (wHash (pb b) l h hh W hl j.st).mono fun e w' ⟨h1, h2, h3⟩ => ⟨h1, j.step h2 h3, h3⟩
  have HW : Hid (∀ l W, Wb W1 W b l → Calls Tryz.prog 60 #[pb b] W fun e w' => e = .returned (.string (txt l)) ∧ w' = W) := fun l W j => wText b l W j.st
  clear R1 RR hb
  have c0 := h.ver0 (CC.out _ _ J0.out)
  go_upto_region 3 with (go_at_call 57; refine (HU.out h.ver.toNat h.ver.toNat_lt [] _ J0.out (by simp)).mono ?_; rintro e W3 ⟨rfl, j1, f1⟩; have J1 := hide j1; clear j1 f1)
  rw [List.nil_append] at J1
  have rp := hide (h.prevR (CC.out _ _ J1.out))
  have HP := hide h.hp
  have HR := hide h.hr
  clear c0 J0
  go_upto_region 4 with (first | (go_at_call 56; refine (HH.out h.prev HP.out _ _ J1.out (by rw [lowL_len]; omega)).mono ?_; rintro e W4 ⟨rfl, j1, f1⟩; have J2 := hide j1; clear j1 f1) | ((with_reducible refine at_list ?_); refine wpLoadH25 _ rfl w.heap.size 1 rfl h.prev HP.out rp.out (by rfl) ?_))
  have rq := hide (h.rootR (CC.out _ _ J2.out))
  clear rp J1
  go_upto_region 5 with (first | (go_at_call 56; refine (HH.out h.root HR.out _ _ J2.out (by rw [List.length_append, lowL_len, HP.out]; omega)).mono ?_; rintro e W5 ⟨rfl, j1, f1⟩; have J3 := hide j1; clear j1 f1) | ((with_reducible refine at_list ?_); refine wpLoadH25 _ rfl w.heap.size 33 rfl h.root HR.out rq.out (by rfl) ?_))
  have c1 := h.time0 (CC.out _ _ J3.out)
  rw [Nat.zero_add] at c1
  clear rq J2
  go_upto_region 6 with (go_at_call 57; refine (HU.out h.time.toNat h.time.toNat_lt _ _ J3.out (by rw [List.length_append, List.length_append, lowL_len, HP.out, HR.out]; omega)).mono ?_; rintro e W6 ⟨rfl, j1, f1⟩; have J4 := hide j1; clear j1 f1)
  have c2 := h.bits0 (CC.out _ _ J4.out)
  rw [Nat.zero_add] at c2
  clear c1 J3
  go_upto_region 7 with (go_at_call 57; refine (HU.out h.bits.toNat h.bits.toNat_lt _ _ J4.out (by rw [List.length_append, List.length_append, List.length_append, lowL_len, lowL_len, HP.out, HR.out]; omega)).mono ?_; rintro e W7 ⟨rfl, j1, f1⟩; have J5 : Hid (Wb W1 W7 b h.front) := j1; clear j1 f1)
  have c3 := h.nonce0 (CC.out _ _ J5.out)
  rw [Nat.zero_add] at c3
  clear c2 J4
  go_upto_region 8 with (go_at_call 57; refine (HU.out h.nonce.toNat h.nonce.toNat_lt _ _ J5.out (by rw [h.front_len]; omega)).mono ?_; rintro e W8 ⟨rfl, j1, f1⟩; have J6 : Hid (Wb W1 W8 b h.bytes) := j1; clear j1 f1)
  clear c3 J5
  go_wp2_with (go_at_call 60; refine (HW.out _ _ J6.out).mono ?_; rintro e W9 ⟨rfl, h9⟩; subst W9)
  go_ret
  exact ⟨rfl, below_next B1.out J6.out.bel⟩
end
end Go.Proofs.YtofddbjnncgmlabGreatDoor
namespace Go.Proofs.YtofddbjnncgmlabGreatDoor
open Go.RowKit
open Go.Deep
section
set_option maxRecDepth 10000
set_option maxHeartbeats 1000000
theorem twice_any (s : ByteArray) (hs : s.size < 2305843009213693000) (w : World) (hK : Kg w) : Calls Tryz.prog 45 #[.string s] w fun e w' => e = .returned (.agg (hc (digest (digest s.data.toList)))) ∧ Below w.heap.size w w' := by
  have HS := hide fun W hW => sum_any s hs W hW
  have hdl := digest_len s.data.toList
  generalize digest s.data.toList = D at *
  have hDz : (⟨D.toArray⟩ : ByteArray).size = 32 := by show D.toArray.size = 32; rw [List.size_toArray, hdl]
  have HT := hide fun W hW => sum_any ⟨D.toArray⟩ (by rw [hDz]; omega) W hW
  rw [show (⟨D.toArray⟩ : ByteArray).data.toList = D from rfl] at HT
  have hel := digest_len D
  generalize digest D = E at *
  have HK := hide hK
  have K2 := hide (hK.next ((Below.refl w.heap.size w).alloc (Nat.le_refl _) (.cells (hc zeros) 25)))
  clear hK hDz
  go_enter Tryz.func45, Tryz.ntmps45
  go_wp2_with (first | refine wpList_allocA A25 rfl rfl ?_ | (go_at_call_of 80 (Value.string s); refine (HS.out _ K2.out).mono ?_; rintro e w1 ⟨rfl, b1⟩; obtain ⟨n1, B1, hlt⟩ := sb_mid b1 (Nat.le_refl _); clear b1 hlt; have hcv := conv_row (w1.alloc (.cells (hc D) 25)) w1.heap.size D hdl 25 (heap_alloc_last _ _); obtain ⟨n2, B2⟩ := sb_last n1.out B1.out ((Below.refl w1.heap.size w1).alloc (Nat.le_refl _) (.cells (hc D) 25)); clear n1 B1) | refine wpList_store_newA A25 rfl _ _ rfl _ rfl (hc D) (by rw [hc_size, hdl]) (hc_one _) rfl rfl ?_ | (go_at_call_of 80 (Value.string ⟨D.toArray⟩); refine (HT.out _ (HK.out.next B2.out)).mono ?_; rintro e w3 ⟨rfl, b3⟩; obtain ⟨n3, B3⟩ := sb_last n2.out B2.out b3; clear b3) | refine wpList_storeA A25 rfl _ _ rfl _ (hc E) (by rw [hc_size, hel]) (hc_one _) rfl rfl (hc zeros) (by rw [hc_size, zeros_len]) 25 n3.out ?_)
  exact bodyPost_ret (v := .agg (hc E)) (resA A25 Tryz.results45 _ _ w.heap.size 25 _ (by rw [hc_size, hel]) rfl (setRow_heap _ _ _ _ _ _ n3.out)) rfl ⟨rfl, below_setRow B3.out (Nat.le_refl _) _⟩
theorem rtwice_any (s : ByteArray) (hs : s.size < 2305843009213693000) (w : World) : Calls Tryz.prog 24 #[.string s] w fun e w' => e = .returned (.agg (hc (digest (digest s.data.toList)))) ∧ Below w.heap.size w w' := by
  have HS := hide fun W => rsum_any s hs W
  have hdl := digest_len s.data.toList
  generalize digest s.data.toList = D at *
  have hDz : (⟨D.toArray⟩ : ByteArray).size = 32 := by show D.toArray.size = 32; rw [List.size_toArray, hdl]
  have HT := hide fun W => rsum_any ⟨D.toArray⟩ (by rw [hDz]; omega) W
  rw [show (⟨D.toArray⟩ : ByteArray).data.toList = D from rfl] at HT
  have hel := digest_len D
  generalize digest D = E at *
  clear hDz
  go_enter Tryz.func24, Tryz.ntmps24
  go_wp2_with (first | refine wpList_allocA A24 rfl rfl ?_ | (go_at_call_of 61 (Value.string s); refine (HS.out _).mono ?_; rintro e w1 ⟨rfl, b1⟩; obtain ⟨n1, B1, hlt⟩ := sb_mid b1 (Nat.le_refl _); clear b1 hlt; have hcv := conv_row (w1.alloc (.cells (hc D) 24)) w1.heap.size D hdl 24 (heap_alloc_last _ _); obtain ⟨n2, B2⟩ := sb_last n1.out B1.out ((Below.refl w1.heap.size w1).alloc (Nat.le_refl _) (.cells (hc D) 24)); clear n1 B1) | refine wpList_store_newA A24 rfl _ _ rfl _ rfl (hc D) (by rw [hc_size, hdl]) (hc_one _) rfl rfl ?_ | (go_at_call_of 61 (Value.string ⟨D.toArray⟩); refine (HT.out _).mono ?_; rintro e w3 ⟨rfl, b3⟩; obtain ⟨n3, B3⟩ := sb_last n2.out B2.out b3; clear b3) | refine wpList_storeA A24 rfl _ _ rfl _ (hc E) (by rw [hc_size, hel]) (hc_one _) rfl rfl (hc zeros) (by rw [hc_size, zeros_len]) 24 n3.out ?_)
  exact bodyPost_ret (v := .agg (hc E)) (resA A24 Tryz.results24 _ _ w.heap.size 24 _ (by rw [hc_size, hel]) rfl (setRow_heap _ _ _ _ _ _ n3.out)) rfl ⟨rfl, below_setRow B3.out (Nat.le_refl _) _⟩
end
end Go.Proofs.YtofddbjnncgmlabGreatDoor
namespace Go.Proofs.YtofddbjnncgmlabGreatDoor
open Go.RowKit
open Go.Deep
set_option linter.unusedVariables false
/-- A part of a hash, turned into a string. -/
theorem conv_part (w : World) (g : Nat) (l : List UInt8) (o k c : Nat) (hl : o + k ≤ l.length) (t : TypeId) (hg : w.heap[g]? = some (.cells (hc l) t (0, 0))) :
    (convert 155 9 (.slice (some ⟨g, o, none⟩) k c)).run Tryz.prog w = .ok (.string ⟨((l.drop o).take k).toArray⟩) w := by
  have hlen : ((l.drop o).take k).length = k := by rw [List.length_take, List.length_drop]; omega
  have := run_convert_bytes_back (P := Tryz.prog) w 155 9 5 ⟨g, o, none⟩ c ((l.drop o).take k) Tryz.underlying155 Tryz.underlying5 Tryz.underlying9 (fun j hj => by
    have hadd : (⟨g, o, none⟩ : Addr).add j = ⟨g, o + j, none⟩ := by unfold Addr.add; split <;> simp_all
    rw [hlen] at hj
    rw [hadd, cell_of_row w g (o + j) _ t (0, 0) hg, hc_at l (o + j) (by omega), by8]
    simp [List.getElem?_eq_getElem (show o + j < l.length by omega)])
  rwa [hlen] at this
/-- The digest of a key. -/
def dg2 (s : ByteArray) : List UInt8 := digest (digest s.data.toList)
theorem dg2_len (s : ByteArray) : (dg2 s).length = 32 := digest_len _
/-- The lock of n bytes. -/
def lockT (s : ByteArray) (n : Nat) : ByteArray := txt ((dg2 s).take n)
theorem lockT_sz (s : ByteArray) (n : Nat) (h : n ≤ 32) : (lockT s n).size = n := by rw [lockT, txt_sz, List.length_take, dg2_len]; omega
/-- Does a key open a lock? -/
def opB (lock key : ByteArray) : Bool := decide (lock.size ≤ 32) && decide (lockT key lock.size = lock)
theorem opB_empty (key : ByteArray) : opB ⟨#[]⟩ key = true := by
  unfold opB
  rw [Bool.and_eq_true]
  exact ⟨rfl, decide_eq_true (by unfold lockT; rfl)⟩
theorem opB_lock (key : ByteArray) (n : Nat) (h : n ≤ 32) : opB (lockT key n) key = true := by
  unfold opB
  rw [Bool.and_eq_true, lockT_sz key n h]
  exact ⟨decide_eq_true h, decide_eq_true rfl⟩
section
set_option maxRecDepth 10000
set_option maxHeartbeats 4000000
theorem lock_in (key : ByteArray) (hk : key.size ≤ 140737488351232) (n : Nat) (hn : n ≤ 32) (w : World) (hK : Kg w) : Calls Tryz.prog 78 #[.string key, .int .i64 (n : Int)] w fun e w' => e = .returned (.tuple #[.string (lockT key n), .int .i64 0]) ∧ Below w.heap.size w w' := by
  have HT := hide (twice_any key (by omega) w hK)
  have hl := dg2_len key
  have LT : Hid (lockT key n = ⟨((dg2 key).take n).toArray⟩) := rfl
  have CV : Hid (∀ W g, W.heap[g]? = some (.cells (hc (dg2 key)) 25 (0, 0)) → (convert 155 9 (.slice (some ⟨g, 0, none⟩) n 32)).run Tryz.prog W = .ok (.string (lockT key n)) W) := fun W g h => by
    have := conv_part W g (dg2 key) 0 n 32 (by omega) 25 h
    rw [List.drop_zero] at this
    exact this
  have HC : Hid ((hc (dg2 key)).size = 32) := by show _ = _; rw [hc_size, hl]
  have HC1 := hide (hc_one (dg2 key))
  have g1 : (0 : Int) ≤ (n : Int) := by omega
  have g2 : decide (32 < n) = false := decide_eq_false (by omega)
  have g3 : (n : Int) ≤ 32 := by omega
  have g4 : n ≤ 32 := hn
  clear hk hK hl hn
  change Hid (Calls Tryz.prog 45 #[.string key] w fun e w' => e = .returned (.agg (hc (dg2 key))) ∧ Below w.heap.size w w') at HT
  generalize lockT key n = lt at *
  generalize dg2 key = D at *
  go_enter Tryz.func78, Tryz.ntmps78
  go_upto_region 4 with (first | (go_at_call 45; refine HT.out.mono ?_; rintro e W1 ⟨rfl, b1⟩; have B1 := hide b1; clear b1) | ((with_reducible refine at_list ?_); first | refine wpList_allocA A25 rfl rfl ?_ | refine wpList_store_newA A25 rfl _ _ rfl _ rfl (hc D) HC.out HC1.out rfl rfl ?_))
  have cv := CV.out _ _ (heap_alloc_last W1 (.cells (hc D) 25))
  have B2 := hide (below_next B1.out ((Below.refl _ _).alloc (Nat.le_refl _) (.cells (hc D) 25)))
  generalize W1.alloc (.cells (hc D) 25) = W2 at *
  go_wp2
  go_ret2
  exact ⟨rfl, B2.out⟩
theorem lock_out (key : ByteArray) (n : Int) (hn : n < 0 ∨ 32 < n) (w : World) : Calls Tryz.prog 78 #[.string key, .int .i64 n] w fun e w' => e = .returned (.tuple #[.string ⟨#[]⟩, .int .i64 1]) ∧ w' = w := by
  rcases hn with hn | hn
  · go_enter Tryz.func78, Tryz.ntmps78
    go_wp2
    go_ret2
    exact ⟨rfl, rfl⟩
  · have g1 : ¬ n < 0 := by omega
    have g2 : n > 32 := hn
    go_enter Tryz.func78, Tryz.ntmps78
    go_wp2
    go_ret2
    exact ⟨rfl, rfl⟩
theorem opens_any (lock key : ByteArray) (hk : key.size ≤ 140737488351232) (w : World) (hK : Kg w) : Calls Tryz.prog 171 #[.string lock, .string key] w fun e w' => e = .returned (.bool (opB lock key)) ∧ Below w.heap.size w w' := by
  by_cases hn : lock.size ≤ 32
  · have HL := hide (lock_in key hk lock.size hn w hK)
    have hb : opB lock key = ((lockT key lock.size).toList == lock.toList) := by
      rw [bytes_same]
      unfold opB
      rw [decide_eq_true hn, Bool.true_and]
    rw [hb]
    clear hb hn hk hK
    generalize lockT key lock.size = lt at *
    go_enter Tryz.func171, Tryz.ntmps171
    go_wp2_with (go_at_call 78; refine HL.out.mono ?_; rintro e W1 ⟨rfl, b1⟩; have B1 := hide b1; clear b1)
    go_ret
    exact ⟨rfl, B1.out⟩
  · have HL := hide (lock_out key lock.size (.inr (by omega)) w)
    have hb : opB lock key = false := by
      unfold opB
      rw [decide_eq_false hn, Bool.false_and]
    rw [hb]
    clear hb hn hk hK
    go_enter Tryz.func171, Tryz.ntmps171
    go_wp2_with (go_at_call 78; refine HL.out.mono ?_; rintro e W1 ⟨rfl, rfl⟩)
    go_ret
    exact ⟨rfl, Below.refl _ _⟩
end
end Go.Proofs.YtofddbjnncgmlabGreatDoor
namespace Go.Proofs.YtofddbjnncgmlabGreatDoor
open Go.RowKit
open Go.Deep
set_option linter.unusedVariables false
/-- A header's id. -/
def Hd.id (h : Hd) : List UInt8 := dg2 (txt h.bytes)
theorem Hd.id_len (h : Hd) : h.id.length = 32 := dg2_len _
/-- A header meets its target. -/
def Hd.meets (h : Hd) : Bool := mt h.id h.bits.toNat
section
set_option maxRecDepth 10000
set_option maxHeartbeats 4000000
theorem hid_any (h : Hd) (w : World) (hK : Kg w) : Calls Tryz.prog 26 #[.agg h.cells.toArray] w fun e w' => e = .returned (.agg (hc h.id)) ∧ Below w.heap.size w w' := by
  have HH := hide (fun W => head_any h W)
  have HT := hide (fun W hW => twice_any (txt h.bytes) (by rw [txt_sz, h.bytes_len]; omega) W hW)
  have s1 : (w.alloc (.cells h.cells.toArray 27)).heap.size = w.heap.size + 1 := by simp
  have R1 := hide ((Below.heap_alloc _ (.cells (hc zeros) 25) _ (lt_heap (heap_alloc_last w (.cells h.cells.toArray 27)))).trans (heap_alloc_last w (.cells h.cells.toArray 27)))
  have R2 := hide (heap_alloc_last (w.alloc (.cells h.cells.toArray 27)) (.cells (hc zeros) 25))
  have b1 := ((Below.refl w.heap.size w).alloc (Nat.le_refl _) (.cells h.cells.toArray 27)).alloc (by rw [s1]; omega) (.cells (hc zeros) 25)
  have B1 := hide b1
  have KS := hide (hK.next b1)
  have CZ := hide h.size
  have IL := hide h.id_len
  rw [s1] at R2
  rw [show digest (digest (txt h.bytes).data.toList) = h.id from rfl] at HT
  clear b1 hK
  generalize h.cells.toArray = C at *
  generalize h.id = D at *
  generalize txt h.bytes = T at *
  go_enter Tryz.func26, Tryz.ntmps26
  go_upto_region 1 with ((with_reducible refine at_list ?_); first | refine wpList_boxA rfl _ rfl C rfl ?_ | refine wpList_allocA A25 rfl rfl ?_)
  try rw [s1]
  clear s1
  generalize (w.alloc (.cells C 27)).alloc (.cells (hc zeros) 25) = W0 at *
  go_wp2_with (first | (go_at_call 62; refine (HH.out _).mono ?_; rintro r W1 ⟨rfl, be⟩; have D1 := hide be; clear be) | (go_at_call 45; refine (HT.out _ (KS.out.next D1.out)).mono ?_; rintro r W2 ⟨rfl, be⟩; have D2 := hide (below_next D1.out be); clear be; have R3 := hide ((D2.out.block _ (lt_heap R2.out)).trans R2.out)) | ((with_reducible refine at_list ?_); first | refine wpList_loadS AHd _ rfl w.heap.size rfl C CZ.out 27 R1.out (by rfl) ?_ | refine wpList_storeA A25 rfl _ _ rfl (w.heap.size + 1) (hc D) (by rw [hc_size, IL.out]) (hc_one _) rfl rfl (hc zeros) (by rw [hc_size, zeros_len]) 25 R3.out ?_))
  exact bodyPost_ret (v := .agg (hc D)) (resA A25 Tryz.results26 _ _ (w.heap.size + 1) 25 _ (by rw [hc_size, IL.out]) rfl (setRow_heap _ _ _ _ _ _ R3.out)) rfl ⟨rfl, below_setRow (below_next B1.out D2.out) (by omega) _⟩
theorem idBehind_any (b : Nat) (t : List UInt8) (n : Nat) (hn : n < 4294967296) (w : World) (hK : Kg w) (hs : t.length < 1000000) (h : Hat w b t) : Calls Tryz.prog 134 #[.pointer (some ⟨b, 0, none⟩), .int .u32 (n : Int)] w fun e w' => e = .returned (.agg (hc (digest (digest (t ++ lowL n 4))))) ∧ Below w.heap.size w w' := by
  have b0 := (Below.refl w.heap.size w).alloc (Nat.le_refl _) (.cells (hc zeros) 25)
  have R0 := hide (heap_alloc_last w (.cells (hc zeros) 25))
  have B0 := hide b0
  have H0 := hide (h.below b0)
  have KS := hide (hK.next b0)
  have HS := hide hs
  have LN := hide (lowL_len n 4)
  have hD := hide (digest_len (t ++ lowL n 4))
  have hE := hide (digest_len (digest (t ++ lowL n 4)))
  have TD : Hid ((txt (lowL n 4)).data.toList = lowL n 4) := rfl
  clear b0 hK h hs
  go_enter Tryz.func134, Tryz.ntmps134
  go_upto_region 1 with ((with_reducible refine at_list ?_); refine wpList_allocA A25 rfl rfl ?_)
  generalize w.alloc (.cells (hc zeros) 25) = W0 at *
  go_upto_region 2 with (go_at_call 55; refine (newWriter_any _).mono ?_; rintro e W2 ⟨rfl, rfl⟩)
  have J0 := hide (Wb.new W0)
  generalize W0.alloc (.cells #[.slice none 0 0] 193) = W1 at *
  generalize hb : W0.heap.size = c at *
  go_upto_region 3 with (go_at_call 57; refine (wU32 (pb c) [] n hn _ (by simp) J0.out.st).mono ?_; rintro e W2 ⟨rfl, j1, f1⟩; have J1 := hide (J0.out.step j1 f1); clear j1 f1)
  rw [List.nil_append] at J1
  clear J0
  have H1 := hide (H0.out.below J1.out.bel)
  go_upto_region 4 with (go_at_call 166; refine (clone_any b t _ H1.out).mono ?_; rintro e W3 ⟨b3, rfl, h3, be, hb3⟩; have H3 := hide h3; have J2 := hide (J1.out.next be); have G3 := hide hb3; clear h3 be hb3)
  have D3 := hide (show Below W0.heap.size W0 W3 from J2.out.bel)
  have N3 : Hid (b3 ≠ 1 ∧ W0.heap.size ≤ b3) := ⟨by have := KS.out.lt; have := G3.out; have := J1.out.bel.size; omega, by have := G3.out; have := J1.out.bel.size; omega⟩
  go_upto_region 5 with (first | (go_at_call 60; refine (wText c (lowL n 4) _ J2.out.st).mono ?_; rintro e W9 ⟨rfl, h9⟩; subst W9) | (go_at_call 132; refine (write_any b3 t (txt (lowL n 4)) _ (KS.out.next D3.out) N3.out.1 (by have := HS.out; rw [txt_sz, LN.out]; omega) H3.out).mono ?_; rintro e W4 ⟨rfl, h4, f4⟩; have H4 := hide h4; have D4 := hide (D3.out.trans (f4.to_below N3.out.2 D3.out.size)); clear h4 f4))
  rw [TD.out] at H4
  clear J1 J2 H1 H3 D3 G3 H0
  go_upto_region 6 with (first | (go_at_call 141; refine (hsum_any b3 (t ++ lowL n 4) _ (KS.out.next D4.out) (by have := HS.out; rw [List.length_append, LN.out]; omega) H4.out).mono ?_; rintro e W5 ⟨rfl, be⟩; have D5 := hide (below_next D4.out be); clear be) | ((with_reducible refine at_list ?_); first | refine wpList_allocA A25 rfl rfl ?_ | refine wpList_store_newA A25 rfl _ _ rfl _ rfl (hc (digest (t ++ lowL n 4))) (by rw [hc_size, hD.out]) (hc_one _) rfl rfl ?_))
  generalize hde : digest (t ++ lowL n 4) = D at *
  have HDE := hide hde
  clear hde
  have hcv := conv_row (W5.alloc (.cells (hc D) 25)) W5.heap.size D hD.out 25 (heap_alloc_last _ _)
  have D6 := hide (below_next D5.out ((Below.refl W5.heap.size W5).alloc (Nat.le_refl _) (.cells (hc D) 25)))
  have HT := hide fun W hW => sum_any ⟨D.toArray⟩ (by show D.toArray.size < _; rw [List.size_toArray, hD.out]; omega) W hW
  rw [show (⟨D.toArray⟩ : ByteArray).data.toList = D from rfl] at HT
  generalize hee : digest D = E at *
  have HEE := hide hee
  clear hee
  clear D5 D4 H4
  generalize W5.alloc (.cells (hc D) 25) = W6 at *
  generalize W5.heap.size = g7 at *
  go_wp2_with (first | (go_at_call 80; refine (HT.out _ (KS.out.next D6.out)).mono ?_; rintro r W7 ⟨rfl, be⟩; have D7 := hide (below_next D6.out be); clear be; have R7 := hide ((D7.out.block _ (lt_heap R0.out)).trans R0.out)) | ((with_reducible refine at_list ?_); refine wpList_storeA A25 rfl _ _ rfl w.heap.size (hc E) (by rw [hc_size, hE.out]) (hc_one _) rfl rfl (hc zeros) (by rw [hc_size, zeros_len]) 25 R7.out ?_))
  exact bodyPost_ret (v := .agg (hc E)) (resA A25 Tryz.results134 _ _ w.heap.size 25 _ (by rw [hc_size, hE.out]) rfl (setRow_heap _ _ _ _ _ _ R7.out)) rfl ⟨by rw [HDE.out, HEE.out], below_setRow (below_next B0.out D7.out) (Nat.le_refl _) _⟩
end
end Go.Proofs.YtofddbjnncgmlabGreatDoor
