/- The document's sums: the contract of its Sum. -/
import Derived.Test.YtfldpejdpinppaaDoorL
import Derived.Test.YtfldpejdpinppaaDoorE
namespace Go.Proofs.YtfldpejdpinppaaDoor
open Go.RowKit
open Go.Deep
theorem pad_whole (n : Nat) : (n + (9 + padZ n)) % 64 = 0 := by unfold padZ; omega
theorem by8_get (x : ByteArray) (k : Nat) (h : k < x.size) : (by8 x.data.toList k : Int) = (x[k].toNat : Int) := by
  unfold by8
  rw [List.getD_eq_getElem?_getD, List.getElem?_eq_getElem (by simpa using h)]
  rfl
/-- A block while it is filled: j bytes stand. -/
def bkF (t : List UInt8) (o n j : Nat) : Value := .int .u8 (if j < n then (by8 t (o + j) : Int) else 0)
theorem bkF_step (t : List UInt8) (o n j : Nat) : (if j = n then Value.int .u8 (by8 t (o + n) : Int) else bkF t o n j) = bkF t o (n + 1) j := by
  unfold bkF
  by_cases e : j = n
  · subst e
    rw [if_pos rfl, if_pos (by omega)]
  · rw [if_neg e]
    by_cases e2 : j < n
    · rw [if_pos e2, if_pos (by omega)]
    · rw [if_neg e2, if_neg (by omega)]
theorem bk_len (t : List UInt8) (k : Nat) (h : 64 * k + 64 ≤ t.length) : ((t.drop (64 * k)).take 64).length = 64 := by
  rw [List.length_take, List.length_drop]; omega
theorem bk_at (t : List UInt8) (k j : Nat) (hj : j < 64) (h : 64 * k + 64 ≤ t.length) : (hc ((t.drop (64 * k)).take 64))[j]? = some (bkF t (64 * k) 64 j) := by
  rw [hc_at _ _ (by rw [bk_len t k h]; exact hj)]
  unfold bkF by8
  rw [if_pos hj]
  simp only [List.getD_eq_getElem?_getD, List.getElem?_take, hj, List.getElem?_drop]
  rfl
section
set_option maxRecDepth 10000
set_option maxHeartbeats 1000000
theorem rsum_any (s : ByteArray) (hs : s.size < 2305843009213693000) (w : World) : Calls Tryd.prog 34 #[.string s] w fun e w' => e = .returned (.agg (hc (digest s.data.toList))) ∧ Below w.heap.size w w' := by
  have hpad := hide fun W => rpad_any s.size (by omega) W
  have hpl : (⟨(padL s.size).toArray⟩ : ByteArray).size = 9 + padZ s.size := by
    show (padL s.size).toArray.size = _
    rw [List.size_toArray, padL_len]
  have hzl := padZ_lt s.size
  have hsz : (s ++ (⟨(padL s.size).toArray⟩ : ByteArray)).size = s.size + (9 + padZ s.size) := by rw [ByteArray.size_append, hpl]
  have hX : (s ++ (⟨(padL s.size).toArray⟩ : ByteArray)).data.toList = s.data.toList ++ padL s.data.toList.length := by simp
  have hm := pad_whole s.size
  have hfin : stN (s.data.toList ++ padL s.data.toList.length) ((s.data.toList ++ padL s.data.toList.length).length / 64) = fin s.data.toList := rfl
  rw [← hX] at hfin
  have hdl := digest_len s.data.toList
  have hD : (fin s.data.toList).bytes = digest s.data.toList := rfl
  have HF := hide fun W => rfirst_any W
  have hw : IntKind.u64.wrap (s.size : Int) = (s.size : Int) := wrapu _ (by omega) (by omega)
  clear hX
  generalize fin s.data.toList = ff at *
  rw [← hD] at hdl ⊢
  clear hD
  have HB := hide fun W => rbytes_any ff W
  generalize ff.bytes = D at *
  generalize (⟨(padL s.size).toArray⟩ : ByteArray) = P at *
  go_enter Tryd.func34, Tryd.ntmps34
  go_wp2_with (first | refine wpList_allocA A24 rfl rfl ?_ | (go_at_call 41; refine (hpad.out _).mono ?_; rintro e w1 ⟨rfl, b1⟩; obtain ⟨n1, B1, hlt⟩ := sb_mid b1 (Nat.le_refl _); clear b1 hlt) | (go_at_call 42; refine (HF.out _).mono ?_; rintro e w2 ⟨rfl, b2⟩; obtain ⟨n2, B2⟩ := sb_last n1.out B1.out b2; clear b2) | refine wpList_allocA A30 rfl rfl ?_ | refine wpList_store_newA A30 rfl _ _ rfl _ rfl (uc first.list) rfl (uc_one _) rfl rfl ?_)
  have n3 := hide ((Below.heap_alloc _ (.cells (uc first.list) 88) _ (lt_heap n2.out)).trans n2.out)
  have g3 := hide (heap_alloc_last w2 (.cells (uc first.list) 88))
  have B3 := hide (B2.out.alloc B2.out.size (.cells (uc first.list) 88))
  have hg : w.heap.size < w2.heap.size := lt_heap n2.out
  clear n1 B1 n2 B2 hpad HF
  generalize w2.alloc (.cells (uc first.list) 88) = W3 at *
  generalize w2.heap.size = g at *
  generalize hXX : s ++ P = X at *
  have hX2 : X.size % 64 = 0 := by rw [hsz]; exact hm
  have hX3 : X.size < 2305843009213694000 := by omega
  have hXl : X.data.toList.length = X.size := by simp
  have HFF := hide hfin
  clear hsz hm hpl hXX hfin
  go_loopw [4, 5, 6] (fun c _ _ wr => ∃ k : Nat, 64 * k ≤ X.size ∧ c = .int .i64 (64 * (k : Int)) ∧ Hid (wr.heap[w.heap.size]? = some (.cells (hc zeros) 30 (0, 0))) ∧ Hid (wr.heap[g]? = some (.cells (uc (stN X.data.toList k).list) 88 (0, 0))) ∧ Hid (Below w.heap.size w wr)) (fun c _ _ _ => (X.size - intOf c).toNat)
  case atStart => exact ⟨0, by omega, rfl, n3, g3, B3⟩
  case round =>
    clear n3 g3 B3
    obtain ⟨k, hk, rfl, r0, r1, bb⟩ := hrel
    by_cases hlt : 64 * k < X.size
    · have hlt' : 64 * (k : Int) < X.size := by omega
      go_wp2_with (first | refine wpList_buildA A35 rfl rfl ?_ | refine wpList_allocA A35 rfl rfl ?_ | refine wpList_store_newA A35 rfl _ _ rfl _ rfl (hc zeros64) (by rw [hc_size, zeros64_len]) (hc_one _) rfl rfl ?_)
      have q0 := hide ((Below.heap_alloc _ (.cells (hc zeros64) 90) _ (lt_heap r0.out)).trans r0.out)
      have q1 := hide ((Below.heap_alloc _ (.cells (hc zeros64) 90) _ (lt_heap r1.out)).trans r1.out)
      have qb := hide (bb.out.alloc bb.out.size (.cells (hc zeros64) 90))
      have q2 : Hid ((wr.alloc (.cells (hc zeros64) 90)).rowIs wr.heap.size 90 64 (bkF X.data.toList (64 * k) 0)) := row_of (by rw [hc_size, zeros64_len]) (heap_alloc_last _ _) (fun i hi => by
        rw [hc_at _ _ (by rw [zeros64_len]; exact hi), by8, zeros64, List.getD_eq_getElem?_getD, List.getElem?_replicate, if_pos hi]
        simp [bkF])
      have g1l : g < wr.heap.size := lt_heap r1.out
      have g0l : w.heap.size < wr.heap.size := lt_heap r0.out
      clear r0 r1 bb
      generalize wr.alloc (.cells (hc zeros64) 90) = W4 at *
      generalize wr.heap.size = gb at *
      go_loopw [6] (fun c wx => ∃ j : Nat, j ≤ 64 ∧ c = .int .i64 j ∧ Hid (wx.heap[w.heap.size]? = some (.cells (hc zeros) 30 (0, 0))) ∧ Hid (wx.heap[g]? = some (.cells (uc (stN X.data.toList k).list) 88 (0, 0))) ∧ Hid (wx.rowIs gb 90 64 (bkF X.data.toList (64 * k) j)) ∧ Hid (Below w.heap.size w wx)) (fun c _ => (64 - intOf c).toNat)
      case atStart => exact ⟨0, by omega, rfl, q0, q1, q2, qb⟩
      case round =>
        clear q0 q1 q2 qb
        obtain ⟨j, hj, rfl, r0, r1, r2, bb⟩ := hrel
        by_cases hj64 : j < 64
        · have c2 := r2.out.cell hj64
          have f2 := r2.out.frozen j
          have e1 : (64 * (k : Int) + j).toNat = 64 * k + j := by omega
          have t0 : (0 : Int) ≤ 64 * k + j := by omega
          have t1 : 64 * (k : Int) + j < X.size := by omega
          have t2 : (0 : Int) ≤ j := by omega
          have t3 : (j : Int) < 64 := by omega
          have hbg := by8_get X (64 * k + j) (by omega)
          have HBG := hide hbg
          clear hbg
          go_wp2
          refine ⟨⟨j + 1, by omega, by go_num, hide ((blk_setCell_other _ _ _ _ (by simp; omega)).trans r0.out), hide ((blk_setCell_other _ _ _ _ (by simp; omega)).trans r1.out), hide ((r2.out.set _ _).congr (fun i hi => ?_)), hide (bb.out.setCell (by simp; omega) _)⟩, by simp [intOf]; omega⟩
          rw [← HBG.out]
          exact bkF_step X.data.toList (64 * k) j i
        · have hje : j = 64 := by omega
          subst hje
          have hbl := bk_len X.data.toList k (by omega)
          have H2 : Hid (wr.heap[gb]? = some (.cells (hc ((X.data.toList.drop (64 * k)).take 64)) 90 (0, 0))) := of_row (by rw [hc_size, hbl]) r2.out (fun i hi => bk_at X.data.toList k i hi (by omega))
          have HST := hide fun W => rstep_any (stN X.data.toList k) ((X.data.toList.drop (64 * k)).take 64) hbl W
          rw [show step (stN X.data.toList k) ((X.data.toList.drop (64 * k)).take 64) = stN X.data.toList (k + 1) from rfl] at HST
          generalize hB : (X.data.toList.drop (64 * k)).take 64 = Bk at *
          generalize hS1 : stN X.data.toList k = S1 at *
          generalize hS2 : stN X.data.toList (k + 1) = S2 at *
          have HS2 := hide hS2
          clear hB hS1 hS2
          go_wp2_with (first | refine wpList_loadA A30 rfl _ rfl _ rfl (uc S1.list) rfl 88 r1.out ?_ | refine wpList_loadA A35 rfl _ rfl _ rfl (hc Bk) (by rw [hc_size, hbl]) 90 H2.out ?_ | (go_at_call 43; refine (HST.out _).mono ?_; rintro e w5 ⟨rfl, b5⟩; have p0 := hide ((b5.block _ (lt_heap r0.out)).trans r0.out); have p1 := hide ((b5.block _ (lt_heap r1.out)).trans r1.out); have pb := hide (bb.out.trans (b5.mono bb.out.size)); clear b5) | refine wpList_storeA A30 rfl _ _ rfl _ (uc S2.list) rfl (uc_one _) rfl rfl (uc S1.list) rfl 88 p1.out ?_)
          exact ⟨⟨k + 1, by omega, by congr 1, hide ((setRow_other _ _ _ _ (by omega)).trans p0.out), hide (by rw [HS2.out]; exact setRow_heap _ _ _ _ _ _ p1.out), hide (below_setRow pb.out (by omega) _)⟩, by simp [intOf]; omega⟩
    · have hke : X.data.toList.length / 64 = k := by omega
      have hf := HFF.out
      rw [hke] at hf
      rw [hf] at r1
      have hlt' : ¬ 64 * (k : Int) < X.size := by omega
      clear hf
      go_wp2_with (first | refine wpList_loadA A30 rfl _ rfl _ rfl (uc ff.list) rfl 88 r1.out ?_ | (go_at_call 44; refine (HB.out _).mono ?_; rintro e w5 ⟨rfl, b5⟩; have p0 := hide ((b5.block _ (lt_heap r0.out)).trans r0.out); have pb := hide (bb.out.trans (b5.mono bb.out.size)); clear b5) | refine wpList_storeA A24 rfl _ _ rfl _ (hc D) (by rw [hc_size, hdl]) (hc_one _) rfl rfl (hc zeros) (by rw [hc_size, zeros_len]) 30 p0.out ?_)
      exact bodyPost_ret (v := .agg (hc D)) (resA A24 Tryd.results34 _ _ w.heap.size 30 _ (by rw [hc_size, hdl]) rfl (setRow_heap _ _ _ _ _ _ p0.out)) rfl ⟨rfl, below_setRow pb.out (Nat.le_refl _) _⟩
end
end Go.Proofs.YtfldpejdpinppaaDoor
