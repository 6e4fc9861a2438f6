/- The contracts of Keys and the document's Keys. -/
import Derived.Test.YtpjpnkohagcegaaDoorYn
import Derived.Test.YtpjpnkohagcegaaDoorYk
import Derived.Test.YtpjpnkohagcegaaDoorV
namespace Go.Proofs.YtpjpnkohagcegaaDoor
open Go.RowKit
open Go.Deep
theorem resK2 {fn : Func} {p u : Tmp} (hf : fn.results = #[.cell p 28, .tmp u]) (tmps : Array Value) (w : World) (g : Nat) (t : TypeId) (c : Array Value) (hn : c.size = 2)
    (hp : tmps.getD p undef = .pointer (some ⟨g, 0, none⟩)) (hg : w.heap[g]? = some (.cells c t (0, 0))) (x : Value) (hx : tmps.getD u undef = x) :
    (results fn tmps).run Tryd.prog w = .ok (.tuple #[.agg c, x]) w := by
  subst hx
  have hp' : tmps[p]?.getD undef = .pointer (some ⟨g, 0, none⟩) := by simpa using hp
  simp [results, hf, hp', asAddr, run_loadVar_row w g t 28 c (0, 0) _ hg Tryd.underlying28 rfl (by rw [AK.info, hn])]
theorem run_build2 (w : World) (a b : UInt64) : (Instr.build 28 #[(0, .int .u64 (a.toNat : Int)), (1, .int .u64 (b.toNat : Int))]).run Tryd.prog w = .ok (.agg (qc [a, b])) w := by
  kernel_rfl
theorem wpList_build2 {w : World} {ops : Array Oper} {rest : List Oper} {o : Oper} {f : Act} {Q : Exit → Act → World → Prop} (hgd : o.guard = none) (x0 x1 : Operand) (ho : o.op = .build 28 #[(0, x0), (1, x1)]) (a b : UInt64)
    (A B : Int) (h0 : f.eval x0 = .int .u64 A) (h1 : f.eval x1 = .int .u64 B) (e0 : A = a.toNat) (e1 : B = b.toNat)
    (h : wpList Tryd.prog ops Q rest (f.put o.dst (.agg (qc [a, b]))) w) : wpList Tryd.prog ops Q (o :: rest) f w := by
  subst e0 e1
  refine wpList_plain hgd fun K hK => ?_
  unfold Oper.wp execOp
  simp only [ho, List.map_toArray, List.map_cons, List.map_nil, h0, h1, run_build2 w a b, Sem.run_bind, Result.andThen_ok, Sem.run_pure]
  exact hK _ _ h
theorem Wfr.old {w3 wr : World} {b : Nat} (Q : rowOf w3 (.pointer (some ⟨b, 0, none⟩)) = none) (h : Wfr w3 wr (.pointer (some ⟨b, 0, none⟩))) (k : Nat) (hk : k < w3.heap.size) (hne : k ≠ b) : wr.heap[k]? = w3.heap[k]? :=
  h.block k hk (by simp only [blkOf, ne_eq, Option.some.injEq]; omega) (by rw [Q]; simp)
theorem Wfr.below {w w3 wr : World} {b : Nat} (B : Below w.heap.size w w3) (hb : w.heap.size ≤ b) (Q : rowOf w3 (.pointer (some ⟨b, 0, none⟩)) = none) (h : Wfr w3 wr (.pointer (some ⟨b, 0, none⟩))) : Below w.heap.size w wr :=
  B.trans ⟨h.os, h.tape, h.output, h.size, fun k hk => h.old Q k (Nat.lt_of_lt_of_le hk B.size) (by omega)⟩
theorem row_new (w : World) : rowOf (w.alloc (.cells #[.slice none 0 0] 64)) (.pointer (some ⟨w.heap.size, 0, none⟩)) = none := by
  have : (w.alloc (.cells #[.slice none 0 0] 64)).cell? ⟨w.heap.size, 0, none⟩ = some (.slice none 0 0) := by
    rw [cell_of_row _ _ 0 _ _ _ (heap_alloc_last w _)]; rfl
  simp [rowOf, this, Value.ownBlock]
theorem ext_take (S : ByteArray) (i j : Nat) : (S.extract i j).data.toList = (S.data.toList.drop i).take (j - i) := by
  rw [ByteArray.data_extract, Array.toList_extract]
theorem leN_u64 (l : List UInt8) (h : l.length ≤ 8) : (leN l : Int) = ((UInt64.ofNat (leN l)).toNat : Int) := by
  have h1 := leN_lt l
  have h2 := pow8 l.length h
  rw [UInt64.toNat_ofNat', Nat.mod_eq_of_lt (by omega)]
/-- The keys of 32 bytes. -/
def keyA (D : List UInt8) : UInt64 := UInt64.ofNat (leN (D.take 8))
def keyB (D : List UInt8) : UInt64 := UInt64.ofNat (leN ((D.drop 8).take 8))
/-- The sum of a header and a nonce. -/
def keyD (h : List UInt8) (n : Nat) : List UInt8 := digest (h ++ lowL n 8)
section
set_option maxRecDepth 10000
set_option maxHeartbeats 1000000
theorem keys_bad (h : ByteArray) (n : Nat) (hh : h.size ≠ 80) (w : World) : Calls Tryd.prog 4 #[.string h, .int .u64 (n : Int)] w fun e w' => e = .returned (.tuple #[.agg (qc [0, 0]), .int .i64 1]) ∧ Below w.heap.size w w' := by
  have hn : ((h.size : Int) != 80) = true := by simp; omega
  go_enter Tryd.func4, Tryd.ntmps4
  go_wp2_with (first | refine wpList_allocA AK rfl rfl ?_ | refine wpList_buildA AK rfl rfl ?_ | refine wpList_store_newA AK rfl _ _ rfl _ rfl (qc [0, 0]) rfl (qc_one _) rfl rfl ?_)
  exact bodyPost_ret (v := .tuple #[.agg (qc [0, 0]), .int .i64 1]) (resK2 Tryd.results4 _ _ w.heap.size 28 _ rfl rfl (heap_alloc_last _ _) _ rfl) rfl ⟨rfl, (Below.refl _ _).alloc (Nat.le_refl _) _⟩
theorem keys_good (h : ByteArray) (n : Nat) (hh : h.size = 80) (hn : U64 n) (w : World) (hK : Kg w) : Calls Tryd.prog 4 #[.string h, .int .u64 (n : Int)] w fun e w' => e = .returned (.tuple #[.agg (qc [keyA (keyD h.data.toList n), keyB (keyD h.data.toList n)]), .int .i64 0]) ∧ Below w.heap.size w w' := by
  have hne : ((h.size : Int) != 80) = false := by simp; omega
  have HK := hide hK
  clear hK
  have hHl : h.data.toList.length = h.size := by simp
  have hTl : (txt (h.data.toList ++ lowL n 8)).size < 2305843009213693000 := by
    show (h.data.toList ++ lowL n 8).toArray.size < _
    rw [List.size_toArray, List.length_append, lowL_len]
    omega
  have HS := hide fun W hW => sum_any (txt (h.data.toList ++ lowL n 8)) hTl W hW
  rw [show digest (txt (h.data.toList ++ lowL n 8)).data.toList = keyD h.data.toList n from rfl] at HS
  have hdl : (keyD h.data.toList n).length = 32 := digest_len _
  generalize keyD h.data.toList n = D at *
  have hSz : (⟨D.toArray⟩ : ByteArray).size = 32 := by show D.toArray.size = 32; rw [List.size_toArray, hdl]
  have t1 : rtake ⟨D.toArray⟩ 0 0 8 = (8, 0, (⟨D.toArray⟩ : ByteArray).extract 0 8) := by
    unfold rtake
    rw [if_neg (by simp), if_neg (by omega), if_neg (by rw [hSz]; omega)]
    rfl
  have t2 : rtake ⟨D.toArray⟩ 8 0 8 = (16, 0, (⟨D.toArray⟩ : ByteArray).extract 8 16) := by
    unfold rtake
    rw [if_neg (by simp), if_neg (by omega), if_neg (by rw [hSz]; omega)]
    rfl
  have HR1 := hide fun b W hW => rU64 b ⟨D.toArray⟩ W 0 0 hW (by rw [hSz]; unfold maxLen; omega) (by omega) (by omega)
  have HR2 := hide fun b W hW => rU64 b ⟨D.toArray⟩ W 8 0 hW (by rw [hSz]; unfold maxLen; omega) (by omega) (by rw [hSz]; omega)
  rw [t1, ext_take, show (⟨D.toArray⟩ : ByteArray).data.toList = D from rfl] at HR1
  rw [t2, ext_take, show (⟨D.toArray⟩ : ByteArray).data.toList = D from rfl] at HR2
  simp only [List.drop_zero, Nat.sub_zero, Nat.reduceSub] at HR1 HR2
  have e1 := hide (leN_u64 (D.take 8) (by rw [List.length_take]; omega))
  have e2 := hide (leN_u64 ((D.drop 8).take 8) (by rw [List.length_take]; omega))
  rw [show UInt64.ofNat (leN (D.take 8)) = keyA D from rfl] at e1
  rw [show UInt64.ofNat (leN ((D.drop 8).take 8)) = keyB D from rfl] at e2
  clear t1 t2
  generalize leN (D.take 8) = A at *
  generalize leN ((D.drop 8).take 8) = B at *
  go_enter Tryd.func4, Tryd.ntmps4
  go_upto_region 3 with (first | refine wpList_allocA AK rfl rfl ?_)
  have hR := hide (heap_alloc_last w (.cells (qc [0, 0]) 28))
  have B1 := hide ((Below.refl w.heap.size w).alloc (Nat.le_refl _) (.cells (qc [0, 0]) 28))
  have s1 : (w.alloc (.cells (qc [0, 0]) 28)).heap.size = w.heap.size + 1 := by simp
  generalize w.alloc (.cells (qc [0, 0]) 28) = W1 at *
  go_upto_region 4 with (go_at_call 13; refine (newWriter_any _).mono ?_; rintro e W2' ⟨rfl, hw2⟩; subst W2')
  have hQ := hide (row_new W1)
  have hW := hide (Wst.new W1)
  have B2 := hide (B1.out.alloc B1.out.size (.cells #[.slice none 0 0] 64))
  have hR2 := hide ((Below.heap_alloc W1 (.cells #[.slice none 0 0] 64) _ (lt_heap hR.out)).trans hR.out)
  generalize W1.alloc (.cells #[.slice none 0 0] 64) = W2 at *
  rw [s1] at hQ hW
  clear hR B1 s1
  go_upto_region 5 with (go_at_call 14; refine (wBytes _ [] h (.inr (by omega)) _ (by simp) hW.out).mono ?_; rintro e W3 ⟨rfl, hW3, hF3⟩; have HW3 := hide hW3; have HF3 := hide hF3; clear hW3 hF3)
  rw [List.nil_append] at HW3
  go_upto_region 6 with (go_at_call 15; refine (wU64 _ h.data.toList n hn _ (by omega) HW3.out).mono ?_; rintro e W4 ⟨rfl, hW4, hF4⟩; have HW4 := hide hW4; have HF4 := hide (HF3.out.trans hF4); clear hW4 hF4)
  have B4 := hide (Wfr.below B2.out (by omega) hQ.out HF4.out)
  have hR4 := hide ((Wfr.old hQ.out HF4.out _ (lt_heap hR2.out) (by omega)).trans hR2.out)
  clear HW3 HF3 HF4 B2 hR2 hQ hW
  go_upto_region 7 with (first | (go_at_call 17; refine (wText _ _ _ HW4.out).mono ?_; rintro e W5 ⟨rfl, hw5⟩; subst W5) | (go_at_call 16; refine (HS.out _ (HK.out.next B4.out)).mono ?_; rintro e W6 ⟨rfl, b6⟩; have B6 := hide (below_next B4.out b6); have hR6 := hide ((b6.block _ (lt_heap hR4.out)).trans hR4.out); clear b6) | refine wpList_allocA A25 rfl rfl ?_ | refine wpList_store_newA A25 rfl _ _ rfl _ rfl (hc D) (by rw [hc_size, hdl]) (hc_one _) rfl rfl ?_)
  have cv := conv_row (W6.alloc (.cells (hc D) 24)) W6.heap.size D hdl 24 (heap_alloc_last _ _)
  have B7 := hide (B6.out.alloc B6.out.size (.cells (hc D) 24))
  have hR7 := hide ((Below.heap_alloc W6 (.cells (hc D) 24) _ (lt_heap hR6.out)).trans hR6.out)
  generalize W6.alloc (.cells (hc D) 24) = W7 at *
  clear B6 hR6 B4 hR4 HW4
  go_upto_region 8 with (go_at_call 18; refine (newReader_any _ _).mono ?_; rintro e W8' ⟨rfl, hw8⟩; subst W8')
  have hRd : Hid (Rst (W7.alloc (.cells #[.string ⟨D.toArray⟩, .int .i64 0, .int .i64 0] 68)) W7.heap.size ⟨D.toArray⟩ 0 0) := heap_alloc_last _ _
  have B8 := hide (B7.out.alloc B7.out.size (.cells #[.string ⟨D.toArray⟩, .int .i64 0, .int .i64 0] 68))
  have hR8 := hide ((Below.heap_alloc W7 (.cells #[.string ⟨D.toArray⟩, .int .i64 0, .int .i64 0] 68) _ (lt_heap hR7.out)).trans hR7.out)
  have hlt : w.heap.size < W7.heap.size := lt_heap hR7.out
  generalize W7.alloc (.cells #[.string ⟨D.toArray⟩, .int .i64 0, .int .i64 0] 68) = W8 at *
  generalize W7.heap.size = rb at *
  clear B7 hR7 cv
  go_upto_region 9 with (go_at_call 19; refine (HR1.out _ _ hRd.out).mono ?_; rintro e W9 ⟨rfl, h9, f9⟩; have hRd9 := hide h9; have F9 := hide f9; clear h9 f9)
  go_upto_region 10 with (go_at_call 19; refine (HR2.out _ _ hRd9.out).mono ?_; rintro e W10 ⟨rfl, h10, f10⟩; have F10 := hide (F9.out.trans f10); clear h10 f10)
  have B10 := hide (B8.out.trans (F10.out.to_below (by omega) B8.out.size))
  have hR10 := hide ((F10.out.block _ (lt_heap hR8.out) (by omega)).trans hR8.out)
  clear B8 hR8 F9 F10 hRd hRd9
  go_wp2_with (first | refine wpList_build2 rfl _ _ rfl (keyA D) (keyB D) _ _ rfl rfl e1.out e2.out ?_ | refine wpList_storeA AK rfl _ _ rfl _ (qc [keyA D, keyB D]) rfl (qc_one _) rfl rfl (qc [0, 0]) rfl 28 hR10.out ?_)
  exact bodyPost_ret (v := .tuple #[.agg (qc [keyA D, keyB D]), .int .i64 0]) (resK2 Tryd.results4 _ _ w.heap.size 28 _ rfl rfl (setRow_heap _ _ _ _ _ _ hR10.out) _ rfl) rfl ⟨rfl, below_setRow B10.out (Nat.le_refl _) _⟩
end
end Go.Proofs.YtpjpnkohagcegaaDoor
