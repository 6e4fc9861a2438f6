/- The sum by a key: the contracts of keyBlock and masked. -/
import Derived.Test.YtempdhoccilhdaaDoorO0
namespace Go.Proofs.YtempdhoccilhdaaDoor
open Go.RowKit
open Go.Deep
/-- A text, padded by zeros to a block. -/
def pad64 (k : List UInt8) : List UInt8 := k ++ List.replicate (64 - k.length) 0
theorem pad64_len (k : List UInt8) (h : k.length ≤ 64) : (pad64 k).length = 64 := by
  rw [pad64, List.length_append, List.length_replicate]; omega
/-- A key, or the sum of one that is too long. -/
def keyS (k : List UInt8) : List UInt8 := if 64 < k.length then digest k else k
theorem keyS_len (k : List UInt8) : (keyS k).length ≤ 64 := by
  unfold keyS
  split
  · rw [digest_len]; omega
  · omega
def maskL (b : List UInt8) (m : UInt8) : List UInt8 := b.map (· ^^^ m)
theorem maskL_len (b : List UInt8) (m : UInt8) : (maskL b m).length = b.length := by simp [maskL]
theorem by8_pad (q : List UInt8) (j : Nat) (hq : q.length ≤ 64) (hj : j < 64) : by8 (pad64 q) j = if j < q.length then by8 q j else 0 := by
  unfold by8 pad64
  simp only [List.getD_eq_getElem?_getD]
  by_cases h : j < q.length
  · rw [if_pos h, List.getElem?_append_left h]
  · rw [if_neg h, List.getElem?_append_right (by omega), List.getElem?_replicate, if_pos (by omega)]
    rfl
/-- A short text, copied into an array of 64 zeros. -/
theorem copy64 {W : World} {g : Nat} (hg : W.heap[g]? = some (.cells (hc zeros64) 35 (0, 0))) (q : ByteArray) (hq : q.size ≤ 64) :
    (Builtin.copy_ #[46, 9] 3 #[.slice (some ⟨g, 0, none⟩) 64 64, .string q]).run Tryd.prog W = .ok (.int .i64 (q.size : Int)) (W.setCells g 0 (cellsL q.data.toList)) ∧
    (W.setCells g 0 (cellsL q.data.toList)).heap[g]? = some (.cells (hc (pad64 q.data.toList)) 35 (0, 0)) := by
  have hql : q.data.toList.length = q.size := by simp
  have hrow : W.rowIs g 35 64 (fun j => .int .u8 (by8 zeros64 j : Int)) := row_of (by rw [hc_size, zeros64_len]) hg (fun i hi => hc_at _ _ (by rw [zeros64_len]; exact hi))
  constructor
  · have hst := run_storeCells_cells (P := Tryd.prog) g 0 (cellsL q.data.toList) 0 W (fun j hj => by rw [cellsL_len] at hj; simp only [Nat.zero_add]; rw [hrow.cell (by omega)]; rfl) (fun j hj => hrow.frozen _) (fun v hv => by simp only [cellsL, List.mem_map] at hv; obtain ⟨b, _, rfl⟩ := hv; rfl)
    rw [Nat.add_zero] at hst
    have hmin : Nat.min q.size 64 = q.size := Nat.min_eq_left hq
    have htk : List.take q.size (List.map (fun b : UInt8 => Value.int IntKind.u8 (b.toNat : Int)) q.data.toList) = cellsL q.data.toList := by
      rw [List.take_of_length_le (by simp)]; rfl
    simp [Builtin.copy_, run_underlying Tryd.underlying46, Builtin.lenOf, Builtin.firstCells, goInt, hmin]
    rw [htk, hst]
    simp [Result.andThen]
  · refine of_row (by rw [hc_size, pad64_len _ (by omega)]) (rowIs_setCells (cellsL q.data.toList) 0 W _ hrow) (fun j hj => ?_)
    rw [hc_at _ _ (by rw [pad64_len _ (by omega)]; exact hj), by8_pad _ _ (by omega) hj, cellsL_len]
    by_cases h : j < q.data.toList.length
    · rw [if_pos h, if_pos ⟨by omega, by omega⟩]
      have e := hc_at q.data.toList j h
      have e2 : (hc q.data.toList)[j]? = (cellsL q.data.toList)[j]? := by simp [hc]
      rw [e2] at e
      rw [Nat.sub_zero, e]; rfl
    · rw [if_neg h, if_neg (by omega), by8, zeros64, List.getD_eq_getElem?_getD, List.getElem?_replicate, if_pos hj]
      rfl
theorem xor8 (x y : UInt8) : bits .xor .u8 (x.toNat : Int) (y.toNat : Int) = ((x ^^^ y).toNat : Int) := by
  have hx := x.toNat_lt
  have hy := y.toNat_lt
  have hb : x.toNat ^^^ y.toNat < 2 ^ 8 := Nat.xor_lt_two_pow (by omega) (by omega)
  have h1 : (BitVec.ofInt 8 (x.toNat : Int)).toNat = x.toNat := by
    rw [BitVec.ofInt_natCast, BitVec.toNat_ofNat]; exact Nat.mod_eq_of_lt (by omega)
  have h2 : (BitVec.ofInt 8 (y.toNat : Int)).toNat = y.toNat := by
    rw [BitVec.ofInt_natCast, BitVec.toNat_ofNat]; exact Nat.mod_eq_of_lt (by omega)
  show IntKind.u8.wrap ((BitVec.ofInt 8 (x.toNat : Int) ^^^ BitVec.ofInt 8 (y.toNat : Int)).toNat : Int) = _
  rw [BitVec.toNat_xor, h1, h2, UInt8.toNat_xor, wraps_u8 _ (by omega) (by omega)]
/-- A block while it is masked. -/
def mkF (b : List UInt8) (m : UInt8) (n j : Nat) : Value := .int .u8 ((if j < n then b.getD j 0 ^^^ m else b.getD j 0).toNat : Int)
theorem mkF_step (b : List UInt8) (m : UInt8) (n j : Nat) : (if j = n then Value.int .u8 ((b.getD n 0 ^^^ m).toNat : Int) else mkF b m n j) = mkF b m (n + 1) j := by
  unfold mkF
  by_cases e : j = n
  · subst e
    rw [if_pos rfl, if_pos (by omega)]
  · rw [if_neg e]
    by_cases e2 : j < n
    · rw [if_pos e2, if_pos (by omega)]
    · rw [if_neg e2, if_neg (by omega)]
theorem mkF_at (b : List UInt8) (m : UInt8) (n : Nat) : mkF b m n n = .int .u8 ((b.getD n 0).toNat : Int) := by simp [mkF]
theorem mk_at (b : List UInt8) (m : UInt8) (hl : b.length = 64) (j : Nat) (hj : j < 64) : (hc (maskL b m))[j]? = some (mkF b m 64 j) := by
  rw [hc_at _ _ (by rw [maskL_len, hl]; exact hj)]
  unfold mkF by8 maskL
  rw [if_pos hj, List.getD_eq_getElem?_getD, List.getD_eq_getElem?_getD, List.getElem?_map, List.getElem?_eq_getElem (by omega)]
  rfl
/-- An array of 64 bytes, turned into a string. -/
theorem conv_row64 (w : World) (g : Nat) (l : List UInt8) (hl : l.length = 64) (t : TypeId) (hg : w.heap[g]? = some (.cells (hc l) t (0, 0))) :
    (convert 46 9 (.slice (some ⟨g, 0, none⟩) 64 64)).run Tryd.prog w = .ok (.string ⟨l.toArray⟩) w := by
  have := run_convert_bytes_back (P := Tryd.prog) w 46 9 5 ⟨g, 0, none⟩ 64 l Tryd.underlying46 Tryd.underlying5 Tryd.underlying9 (fun j hj => by
    have hadd : (⟨g, 0, none⟩ : Addr).add j = ⟨g, j, none⟩ := by unfold Addr.add; split <;> simp_all
    rw [hadd, cell_of_row w g j _ t (0, 0) hg]
    simp [hc, cellsL, hj])
  rwa [hl] at this
theorem key_mid {w w1 : World} {A C : Obj} {W2 : World} (n0 : W2.heap[w.heap.size]? = some A) (n1 : W2.heap[w.heap.size + 1]? = some C) (B : Below w.heap.size w W2) (b1 : Below W2.heap.size W2 w1) (O : Obj) :
    Hid ((w1.alloc O).heap[w.heap.size]? = some A) ∧ Hid ((w1.alloc O).heap[w.heap.size + 1]? = some C) ∧ Hid (Below w.heap.size w (w1.alloc O)) := by
  have e0 := (b1.block _ (lt_heap n0)).trans n0
  have e1 := (b1.block _ (lt_heap n1)).trans n1
  have B1 := B.trans (b1.mono B.size)
  exact ⟨(Below.heap_alloc _ O _ (lt_heap e0)).trans e0, (Below.heap_alloc _ O _ (lt_heap e1)).trans e1, B1.alloc B1.size O⟩
section
set_option maxRecDepth 10000
set_option maxHeartbeats 1000000
theorem masked_any (b : List UInt8) (hl : b.length = 64) (m : UInt8) (M : Int) (hM : M = (m.toNat : Int)) (w : World) : Calls Tryd.prog 46 #[.agg (hc b), .int .u8 M] w fun e w' => e = .returned (.string ⟨(maskL b m).toArray⟩) ∧ Below w.heap.size w w' := by
  subst hM
  go_enter Tryd.func46, Tryd.ntmps46
  go_wp2_with (refine wpList_boxA rfl _ rfl (hc b) rfl ?_)
  have R0 : Hid ((w.alloc (.cells (hc b) 35)).rowIs w.heap.size 35 64 (mkF b m 0)) := row_of (by rw [hc_size, hl]) (heap_alloc_last _ _) (fun i hi => by
    rw [hc_at _ _ (by omega)]; simp [mkF, by8])
  have B0 := hide ((Below.refl w.heap.size w).alloc (Nat.le_refl _) (.cells (hc b) 35))
  go_loopw [6] (fun c wr => ∃ i : Nat, i ≤ 64 ∧ c = .int .i64 i ∧ Hid (wr.rowIs w.heap.size 35 64 (mkF b m i)) ∧ Hid (Below w.heap.size w wr)) (fun c _ => (64 - intOf c).toNat)
  case atStart => exact ⟨0, by omega, rfl, R0, B0⟩
  case round =>
    clear R0 B0
    obtain ⟨i, hi, rfl, r0, bb⟩ := hrel
    by_cases hlt : i < 64
    · have c0 := r0.out.cell hlt
      have f0 := r0.out.frozen i
      rw [mkF_at] at c0
      have t0 : (0 : Int) ≤ i := by omega
      have t1 : (i : Int) < 64 := by omega
      have HST := hide fun j => mkF_step b m i j
      have hxr := xor8 (b.getD i 0) m
      have HX := hide hxr
      clear hxr
      generalize b.getD i 0 = bi at *
      go_wp2
      refine ⟨⟨i + 1, by omega, by go_num, hide ((r0.out.set _ _).congr (fun j hj => ?_)), hide (bb.out.setCell (by simp) _)⟩, by simp [intOf]; omega⟩
      rw [HX.out]
      exact HST.out j
    · have hie : i = 64 := by omega
      subst hie
      have H2 := of_row (c := hc (maskL b m)) (by rw [hc_size, maskL_len, hl]) r0.out (fun i hi => mk_at b m hl i hi)
      have hcv := conv_row64 wr w.heap.size (maskL b m) (by rw [maskL_len, hl]) 35 H2
      go_wp2
      go_ret
      exact ⟨rfl, bb.out⟩
theorem keyBlock_any (k : ByteArray) (hk : k.size < 2305843009213693000) (w : World) (hK : Kg w) : Calls Tryd.prog 45 #[.string k] w fun e w' => e = .returned (.agg (hc (pad64 (keyS k.data.toList)))) ∧ Below w.heap.size w w' := by
  have hkl : k.data.toList.length = k.size := by simp
  have b12 := blk2 w (.cells (hc zeros64) 35) (.cells (hc zeros64) 35)
  have N0 := hide b12.1
  have N1 := hide b12.2
  have BB := hide (two_below w (.cells (hc zeros64) 35) (.cells (hc zeros64) 35))
  have HK := hide (hK.next BB.out)
  clear b12 hK
  by_cases hlt : 64 < k.size
  · rw [show keyS k.data.toList = digest k.data.toList from if_pos (by omega)]
    have HS := hide fun W hW => sum_any k hk W hW
    have hdl := digest_len k.data.toList
    generalize digest k.data.toList = D at *
    have hDz : (⟨D.toArray⟩ : ByteArray).size = 32 := by show D.toArray.size = 32; rw [List.size_toArray, hdl]
    have hpl := pad64_len D (by omega)
    generalize hP : pad64 D = PD at *
    have HP := hide hP
    clear hP
    go_enter Tryd.func45, Tryd.ntmps45
    go_wp2_with (first | refine wpList_allocA A35 rfl rfl ?_ | (go_at_call 10; refine (HS.out _ HK.out).mono ?_; rintro e w1 ⟨rfl, b1⟩; obtain ⟨n0, n1, bb⟩ := key_mid N0.out N1.out BB.out b1 (.cells (hc D) 25); clear b1; have hcv := conv_row (w1.alloc (.cells (hc D) 25)) w1.heap.size D hdl 25 (heap_alloc_last _ _); have hcp := (copy64 n1.out ⟨D.toArray⟩ (by omega)).1; rw [hDz] at hcp; have n2 := hide (copy64 n1.out ⟨D.toArray⟩ (by omega)).2; rw [show (⟨D.toArray⟩ : ByteArray).data.toList = D from rfl, HP.out] at n2; have n3 := hide ((Rfr.setCells (w.heap.size + 1) (cellsL (⟨D.toArray⟩ : ByteArray).data.toList) 0 (w1.alloc (.cells (hc D) 25))).block w.heap.size (lt_heap n0.out) (by omega) |>.trans n0.out); have b3 := hide (bb.out.trans ((Rfr.setCells (w.heap.size + 1) (cellsL (⟨D.toArray⟩ : ByteArray).data.toList) 0 (w1.alloc (.cells (hc D) 25))).to_below (by omega) bb.out.size)); rw [show (⟨D.toArray⟩ : ByteArray).data.toList = D from rfl] at hcp n3 b3) | refine wpList_allocA A25 rfl rfl ?_ | refine wpList_store_newA A25 rfl _ _ rfl _ rfl (hc D) (by rw [hc_size, hdl]) (hc_one _) rfl rfl ?_ | refine wpList_loadA A35 rfl _ rfl _ rfl (hc PD) (by rw [hc_size, hpl]) 35 n2.out ?_ | refine wpList_storeA A35 rfl _ _ rfl _ (hc PD) (by rw [hc_size, hpl]) (hc_one _) rfl rfl (hc zeros64) (by rw [hc_size, zeros64_len]) 35 n3.out ?_)
    exact bodyPost_ret (v := .agg (hc PD)) (resA A35 Tryd.results45 _ _ w.heap.size 35 _ (by rw [hc_size, hpl]) rfl (setRow_heap _ _ _ _ _ _ n3.out)) rfl ⟨rfl, below_setRow b3.out (Nat.le_refl _) _⟩
  · rw [show keyS k.data.toList = k.data.toList from if_neg (by omega)]
    have hpl := pad64_len k.data.toList (by omega)
    have hcp := (copy64 N1.out k (by omega)).1
    have n2 := hide (copy64 N1.out k (by omega)).2
    have n3 := hide ((Rfr.setCells (w.heap.size + 1) (cellsL k.data.toList) 0 ((w.alloc (.cells (hc zeros64) 35)).alloc (.cells (hc zeros64) 35))).block w.heap.size (lt_heap N0.out) (by omega) |>.trans N0.out)
    have b3 := hide (BB.out.trans ((Rfr.setCells (w.heap.size + 1) (cellsL k.data.toList) 0 ((w.alloc (.cells (hc zeros64) 35)).alloc (.cells (hc zeros64) 35))).to_below (B := w.heap.size) (by omega) (by simp; omega)))
    generalize pad64 k.data.toList = PD at *
    go_enter Tryd.func45, Tryd.ntmps45
    go_wp2_with (first | refine wpList_allocA A35 rfl rfl ?_ | refine wpList_loadA A35 rfl _ rfl _ rfl (hc PD) (by rw [hc_size, hpl]) 35 n2.out ?_ | refine wpList_storeA A35 rfl _ _ rfl _ (hc PD) (by rw [hc_size, hpl]) (hc_one _) rfl rfl (hc zeros64) (by rw [hc_size, zeros64_len]) 35 n3.out ?_)
    exact bodyPost_ret (v := .agg (hc PD)) (resA A35 Tryd.results45 _ _ w.heap.size 35 _ (by rw [hc_size, hpl]) rfl (setRow_heap _ _ _ _ _ _ n3.out)) rfl ⟨rfl, below_setRow b3.out (Nat.le_refl _) _⟩
end
end Go.Proofs.YtempdhoccilhdaaDoor
