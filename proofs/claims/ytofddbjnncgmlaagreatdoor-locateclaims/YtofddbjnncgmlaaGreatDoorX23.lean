/- The digest: the contracts of Twice and of the document's Twice. Locks and keys: tx.Lock, tx.Opens, the document's Opens: their contracts. The contracts of block.ID, block.Meets and block.idBehind. -/
import Derived.Test.YtofddbjnncgmlaaGreatDoorX06
import Derived.Test.YtofddbjnncgmlaaGreatDoorX11
import Derived.Test.YtofddbjnncgmlaaGreatDoorX22
namespace Go.Proofs.YtofddbjnncgmlaaGreatDoor
open Go.RowKit
open Go.Deep
section
set_option maxRecDepth 10000
set_option maxHeartbeats 1000000
theorem twice_any (s : ByteArray) (hs : s.size < 2305843009213693000) (w : World) (hK : Kg w) : Calls Tryz.prog 79 #[.string s] w fun e w' => e = .returned (.agg (hc (digest (digest s.data.toList)))) ∧ Below w.heap.size w w' := by
  have HS := hide fun W hW => sum_any s hs W hW
  have hdl := digest_len s.data.toList
  generalize digest s.data.toList = D at *
  have hDz : (⟨D.toArray⟩ : ByteArray).size = 32 := by show D.toArray.size = 32; rw [List.size_toArray, hdl]
  have HT := hide fun W hW => sum_any ⟨D.toArray⟩ (by rw [hDz]; omega) W hW
  rw [show (⟨D.toArray⟩ : ByteArray).data.toList = D from rfl] at HT
  have hel := digest_len D
  generalize digest D = E at *
  have HK := hide hK
  have K2 := hide (hK.next ((Below.refl w.heap.size w).alloc (Nat.le_refl _) (.cells (hc zeros) 46)))
  clear hK hDz
  go_enter Tryz.func79, Tryz.ntmps79
  go_wp2_with (first | refine wpList_allocA A25 rfl rfl ?_ | (go_at_call_of 167 (Value.string s); refine (HS.out _ K2.out).mono ?_; rintro e w1 ⟨rfl, b1⟩; obtain ⟨n1, B1, hlt⟩ := sb_mid b1 (Nat.le_refl _); clear b1 hlt; have hcv := conv_row (w1.alloc (.cells (hc D) 46)) w1.heap.size D hdl 46 (heap_alloc_last _ _); obtain ⟨n2, B2⟩ := sb_last n1.out B1.out ((Below.refl w1.heap.size w1).alloc (Nat.le_refl _) (.cells (hc D) 46)); clear n1 B1) | refine wpList_store_newA A25 rfl _ _ rfl _ rfl (hc D) (by rw [hc_size, hdl]) (hc_one _) rfl rfl ?_ | (go_at_call_of 167 (Value.string ⟨D.toArray⟩); refine (HT.out _ (HK.out.next B2.out)).mono ?_; rintro e w3 ⟨rfl, b3⟩; obtain ⟨n3, B3⟩ := sb_last n2.out B2.out b3; clear b3) | refine wpList_storeA A25 rfl _ _ rfl _ (hc E) (by rw [hc_size, hel]) (hc_one _) rfl rfl (hc zeros) (by rw [hc_size, zeros_len]) 46 n3.out ?_)
  exact bodyPost_ret (v := .agg (hc E)) (resA A25 Tryz.results79 _ _ w.heap.size 46 _ (by rw [hc_size, hel]) rfl (setRow_heap _ _ _ _ _ _ n3.out)) rfl ⟨rfl, below_setRow B3.out (Nat.le_refl _) _⟩
theorem rtwice_any (s : ByteArray) (hs : s.size < 2305843009213693000) (w : World) : Calls Tryz.prog 139 #[.string s] w fun e w' => e = .returned (.agg (hc (digest (digest s.data.toList)))) ∧ Below w.heap.size w w' := by
  have HS := hide fun W => rsum_any s hs W
  have hdl := digest_len s.data.toList
  generalize digest s.data.toList = D at *
  have hDz : (⟨D.toArray⟩ : ByteArray).size = 32 := by show D.toArray.size = 32; rw [List.size_toArray, hdl]
  have HT := hide fun W => rsum_any ⟨D.toArray⟩ (by rw [hDz]; omega) W
  rw [show (⟨D.toArray⟩ : ByteArray).data.toList = D from rfl] at HT
  have hel := digest_len D
  generalize digest D = E at *
  clear hDz
  go_enter Tryz.func139, Tryz.ntmps139
  go_wp2_with (first | refine wpList_allocA A24 rfl rfl ?_ | (go_at_call_of 235 (Value.string s); refine (HS.out _).mono ?_; rintro e w1 ⟨rfl, b1⟩; obtain ⟨n1, B1, hlt⟩ := sb_mid b1 (Nat.le_refl _); clear b1 hlt; have hcv := conv_row (w1.alloc (.cells (hc D) 45)) w1.heap.size D hdl 45 (heap_alloc_last _ _); obtain ⟨n2, B2⟩ := sb_last n1.out B1.out ((Below.refl w1.heap.size w1).alloc (Nat.le_refl _) (.cells (hc D) 45)); clear n1 B1) | refine wpList_store_newA A24 rfl _ _ rfl _ rfl (hc D) (by rw [hc_size, hdl]) (hc_one _) rfl rfl ?_ | (go_at_call_of 235 (Value.string ⟨D.toArray⟩); refine (HT.out _).mono ?_; rintro e w3 ⟨rfl, b3⟩; obtain ⟨n3, B3⟩ := sb_last n2.out B2.out b3; clear b3) | refine wpList_storeA A24 rfl _ _ rfl _ (hc E) (by rw [hc_size, hel]) (hc_one _) rfl rfl (hc zeros) (by rw [hc_size, zeros_len]) 45 n3.out ?_)
  exact bodyPost_ret (v := .agg (hc E)) (resA A24 Tryz.results139 _ _ w.heap.size 45 _ (by rw [hc_size, hel]) rfl (setRow_heap _ _ _ _ _ _ n3.out)) rfl ⟨rfl, below_setRow B3.out (Nat.le_refl _) _⟩
end
end Go.Proofs.YtofddbjnncgmlaaGreatDoor
namespace Go.Proofs.YtofddbjnncgmlaaGreatDoor
open Go.RowKit
open Go.Deep
set_option linter.unusedVariables false
/-- A part of a hash, turned into a string. -/
theorem conv_part (w : World) (g : Nat) (l : List UInt8) (o k c : Nat) (hl : o + k ≤ l.length) (t : TypeId) (hg : w.heap[g]? = some (.cells (hc l) t (0, 0))) :
    (convert 308 9 (.slice (some ⟨g, o, none⟩) k c)).run Tryz.prog w = .ok (.string ⟨((l.drop o).take k).toArray⟩) w := by
  have hlen : ((l.drop o).take k).length = k := by rw [List.length_take, List.length_drop]; omega
  have := run_convert_bytes_back (P := Tryz.prog) w 308 9 5 ⟨g, o, none⟩ c ((l.drop o).take k) Tryz.underlying308 Tryz.underlying5 Tryz.underlying9 (fun j hj => by
    have hadd : (⟨g, o, none⟩ : Addr).add j = ⟨g, o + j, none⟩ := by unfold Addr.add; split <;> simp_all
    rw [hlen] at hj
    rw [hadd, cell_of_row w g (o + j) _ t (0, 0) hg, hc_at l (o + j) (by omega), by8]
    simp [List.getElem?_eq_getElem (show o + j < l.length by omega)])
  rwa [hlen] at this
/-- The digest of a key. -/
def dg2 (s : ByteArray) : List UInt8 := digest (digest s.data.toList)
theorem dg2_len (s : ByteArray) : (dg2 s).length = 32 := digest_len _
/-- The lock of n bytes. -/
def lockT (s : ByteArray) (n : Nat) : ByteArray := txt ((dg2 s).take n)
theorem lockT_sz (s : ByteArray) (n : Nat) (h : n ≤ 32) : (lockT s n).size = n := by rw [lockT, txt_sz, List.length_take, dg2_len]; omega
/-- Does a key open a lock? -/
def opB (lock key : ByteArray) : Bool := decide (lock.size ≤ 32) && decide (lockT key lock.size = lock)
theorem opB_empty (key : ByteArray) : opB ⟨#[]⟩ key = true := by
  unfold opB
  rw [Bool.and_eq_true]
  exact ⟨rfl, decide_eq_true (by unfold lockT; rfl)⟩
theorem opB_lock (key : ByteArray) (n : Nat) (h : n ≤ 32) : opB (lockT key n) key = true := by
  unfold opB
  rw [Bool.and_eq_true, lockT_sz key n h]
  exact ⟨decide_eq_true h, decide_eq_true rfl⟩
section
set_option maxRecDepth 10000
set_option maxHeartbeats 4000000
theorem lock_in (key : ByteArray) (hk : key.size ≤ 140737488351232) (n : Nat) (hn : n ≤ 32) (w : World) (hK : Kg w) : Calls Tryz.prog 189 #[.string key, .int .i64 (n : Int)] w fun e w' => e = .returned (.tuple #[.string (lockT key n), .int .i64 0]) ∧ Below w.heap.size w w' := by
  have HT := hide (twice_any key (by omega) w hK)
  have hl := dg2_len key
  have LT : Hid (lockT key n = ⟨((dg2 key).take n).toArray⟩) := rfl
  have CV : Hid (∀ W g, W.heap[g]? = some (.cells (hc (dg2 key)) 46 (0, 0)) → (convert 308 9 (.slice (some ⟨g, 0, none⟩) n 32)).run Tryz.prog W = .ok (.string (lockT key n)) W) := fun W g h => by
    have := conv_part W g (dg2 key) 0 n 32 (by omega) 46 h
    rw [List.drop_zero] at this
    exact this
  have HC : Hid ((hc (dg2 key)).size = 32) := by show _ = _; rw [hc_size, hl]
  have HC1 := hide (hc_one (dg2 key))
  have g1 : (0 : Int) ≤ (n : Int) := by omega
  have g2 : decide (32 < n) = false := decide_eq_false (by omega)
  have g3 : (n : Int) ≤ 32 := by omega
  have g4 : n ≤ 32 := hn
  clear hk hK hl hn
  change Hid (Calls Tryz.prog 79 #[.string key] w fun e w' => e = .returned (.agg (hc (dg2 key))) ∧ Below w.heap.size w w') at HT
  generalize lockT key n = lt at *
  generalize dg2 key = D at *
  go_enter Tryz.func189, Tryz.ntmps189
  go_upto_region 4 with (first | (go_at_call 79; refine HT.out.mono ?_; rintro e W1 ⟨rfl, b1⟩; have B1 := hide b1; clear b1) | ((with_reducible refine at_list ?_); first | refine wpList_allocA A25 rfl rfl ?_ | refine wpList_store_newA A25 rfl _ _ rfl _ rfl (hc D) HC.out HC1.out rfl rfl ?_))
  have cv := CV.out _ _ (heap_alloc_last W1 (.cells (hc D) 46))
  have B2 := hide (below_next B1.out ((Below.refl _ _).alloc (Nat.le_refl _) (.cells (hc D) 46)))
  generalize W1.alloc (.cells (hc D) 46) = W2 at *
  go_wp2
  go_ret2
  exact ⟨rfl, B2.out⟩
theorem lock_out (key : ByteArray) (n : Int) (hn : n < 0 ∨ 32 < n) (w : World) : Calls Tryz.prog 189 #[.string key, .int .i64 n] w fun e w' => e = .returned (.tuple #[.string ⟨#[]⟩, .int .i64 1]) ∧ w' = w := by
  rcases hn with hn | hn
  · go_enter Tryz.func189, Tryz.ntmps189
    go_wp2
    go_ret2
    exact ⟨rfl, rfl⟩
  · have g1 : ¬ n < 0 := by omega
    have g2 : n > 32 := hn
    go_enter Tryz.func189, Tryz.ntmps189
    go_wp2
    go_ret2
    exact ⟨rfl, rfl⟩
theorem opens_any (lock key : ByteArray) (hk : key.size ≤ 140737488351232) (w : World) (hK : Kg w) : Calls Tryz.prog 352 #[.string lock, .string key] w fun e w' => e = .returned (.bool (opB lock key)) ∧ Below w.heap.size w w' := by
  by_cases hn : lock.size ≤ 32
  · have HL := hide (lock_in key hk lock.size hn w hK)
    have hb : opB lock key = ((lockT key lock.size).toList == lock.toList) := by
      rw [bytes_same]
      unfold opB
      rw [decide_eq_true hn, Bool.true_and]
    rw [hb]
    clear hb hn hk hK
    generalize lockT key lock.size = lt at *
    go_enter Tryz.func352, Tryz.ntmps352
    go_wp2_with (go_at_call 189; refine HL.out.mono ?_; rintro e W1 ⟨rfl, b1⟩; have B1 := hide b1; clear b1)
    go_ret
    exact ⟨rfl, B1.out⟩
  · have HL := hide (lock_out key lock.size (.inr (by omega)) w)
    have hb : opB lock key = false := by
      unfold opB
      rw [decide_eq_false hn, Bool.false_and]
    rw [hb]
    clear hb hn hk hK
    go_enter Tryz.func352, Tryz.ntmps352
    go_wp2_with (go_at_call 189; refine HL.out.mono ?_; rintro e W1 ⟨rfl, rfl⟩)
    go_ret
    exact ⟨rfl, Below.refl _ _⟩
theorem ropens_any (lock key : ByteArray) (hk : key.size ≤ 140737488351232) (w : World) : Calls Tryz.prog 276 #[.string lock, .string key] w fun e w' => e = .returned (.bool (opB lock key)) ∧ Below w.heap.size w w' := by
  by_cases h0 : lock.size = 0
  · have hx : lock = ⟨#[]⟩ := ByteArray.ext (Array.eq_empty_of_size_eq_zero h0)
    subst hx
    rw [opB_empty]
    go_enter Tryz.func276, Tryz.ntmps276
    go_wp2
    go_ret
    exact ⟨rfl, Below.refl _ _⟩
  have hne : lock.toList.isEmpty = false := by
    rw [ByteArray.toList_eq]
    cases hx : lock.data.toList with
    | nil => exact absurd (by have := congrArg List.length hx; simpa using this) h0
    | cons a r => rfl
  have HT := hide (rtwice_any key (by omega) w)
  have hl := dg2_len key
  change Hid (Calls Tryz.prog 139 #[.string key] w fun e w' => e = .returned (.agg (hc (dg2 key))) ∧ Below w.heap.size w w') at HT
  have HC : Hid ((hc (dg2 key)).size = 32) := by show _ = _; rw [hc_size, hl]
  have HC1 := hide (hc_one (dg2 key))
  by_cases hn : lock.size ≤ 32
  · have CV : Hid (∀ W g, W.heap[g]? = some (.cells (hc (dg2 key)) 45 (0, 0)) → (convert 308 9 (.slice (some ⟨g, 0, none⟩) lock.size 32)).run Tryz.prog W = .ok (.string (lockT key lock.size)) W) := fun W g h => by
      have := conv_part W g (dg2 key) 0 lock.size 32 (by omega) 45 h
      rw [List.drop_zero] at this
      exact this
    have hb : opB lock key = ((lockT key lock.size).toList == lock.toList) := by
      rw [bytes_same]
      unfold opB
      rw [decide_eq_true hn, Bool.true_and]
    rw [hb]
    have g3 : (lock.size : Int) ≤ 32 := by omega
    have g1 : (0 : Int) ≤ (lock.size : Int) := by omega
    clear hb hk hl h0
    generalize lockT key lock.size = lt at *
    generalize dg2 key = D at *
    go_enter Tryz.func276, Tryz.ntmps276
    go_upto_region 4 with (first | (go_at_call 139; refine HT.out.mono ?_; rintro e W1 ⟨rfl, b1⟩; have B1 := hide b1; clear b1) | ((with_reducible refine at_list ?_); first | refine wpList_allocA A24 rfl rfl ?_ | refine wpList_store_newA A24 rfl _ _ rfl _ rfl (hc D) HC.out HC1.out rfl rfl ?_))
    have cv := CV.out _ _ (heap_alloc_last W1 (.cells (hc D) 45))
    have B2 := hide (below_next B1.out ((Below.refl _ _).alloc (Nat.le_refl _) (.cells (hc D) 45)))
    generalize W1.alloc (.cells (hc D) 45) = W2 at *
    go_wp2
    go_ret
    exact ⟨rfl, B2.out⟩
  · have hb : opB lock key = false := by
      unfold opB
      rw [decide_eq_false hn, Bool.false_and]
    rw [hb]
    have g3 : ¬ (lock.size : Int) ≤ 32 := by omega
    clear hb hk hl h0 hn
    generalize dg2 key = D at *
    go_enter Tryz.func276, Tryz.ntmps276
    go_upto_region 4 with (first | (go_at_call 139; refine HT.out.mono ?_; rintro e W1 ⟨rfl, b1⟩; have B1 := hide b1; clear b1) | ((with_reducible refine at_list ?_); first | refine wpList_allocA A24 rfl rfl ?_ | refine wpList_store_newA A24 rfl _ _ rfl _ rfl (hc D) HC.out HC1.out rfl rfl ?_))
    have B2 := hide (below_next B1.out ((Below.refl _ _).alloc (Nat.le_refl _) (.cells (hc D) 45)))
    generalize W1.alloc (.cells (hc D) 45) = W2 at *
    go_wp2
    go_ret
    exact ⟨rfl, B2.out⟩
end
end Go.Proofs.YtofddbjnncgmlaaGreatDoor
namespace Go.Proofs.YtofddbjnncgmlaaGreatDoor
open Go.RowKit
open Go.Deep
set_option linter.unusedVariables false
/-- A header's id. -/
def Hd.id (h : Hd) : List UInt8 := dg2 (txt h.bytes)
theorem Hd.id_len (h : Hd) : h.id.length = 32 := dg2_len _
/-- A header meets its target. -/
def Hd.meets (h : Hd) : Bool := mt h.id h.bits.toNat
section
set_option maxRecDepth 10000
set_option maxHeartbeats 4000000
theorem hid_any (h : Hd) (w : World) (hK : Kg w) : Calls Tryz.prog 20 #[.agg h.cells.toArray] w fun e w' => e = .returned (.agg (hc h.id)) ∧ Below w.heap.size w w' := by
  have HH := hide (fun W => head_any h W)
  have HT := hide (fun W hW => twice_any (txt h.bytes) (by rw [txt_sz, h.bytes_len]; omega) W hW)
  have s1 : (w.alloc (.cells h.cells.toArray 48)).heap.size = w.heap.size + 1 := by simp
  have R1 := hide ((Below.heap_alloc _ (.cells (hc zeros) 46) _ (lt_heap (heap_alloc_last w (.cells h.cells.toArray 48)))).trans (heap_alloc_last w (.cells h.cells.toArray 48)))
  have R2 := hide (heap_alloc_last (w.alloc (.cells h.cells.toArray 48)) (.cells (hc zeros) 46))
  have b1 := ((Below.refl w.heap.size w).alloc (Nat.le_refl _) (.cells h.cells.toArray 48)).alloc (by rw [s1]; omega) (.cells (hc zeros) 46)
  have B1 := hide b1
  have KS := hide (hK.next b1)
  have CZ := hide h.size
  have IL := hide h.id_len
  rw [s1] at R2
  rw [show digest (digest (txt h.bytes).data.toList) = h.id from rfl] at HT
  clear b1 hK
  generalize h.cells.toArray = C at *
  generalize h.id = D at *
  generalize txt h.bytes = T at *
  go_enter Tryz.func20, Tryz.ntmps20
  go_upto_region 1 with ((with_reducible refine at_list ?_); first | refine wpList_boxA rfl _ rfl C rfl ?_ | refine wpList_allocA A25 rfl rfl ?_)
  try rw [s1]
  clear s1
  generalize (w.alloc (.cells C 48)).alloc (.cells (hc zeros) 46) = W0 at *
  go_wp2_with (first | (go_at_call 80; refine (HH.out _).mono ?_; rintro r W1 ⟨rfl, be⟩; have D1 := hide be; clear be) | (go_at_call 79; refine (HT.out _ (KS.out.next D1.out)).mono ?_; rintro r W2 ⟨rfl, be⟩; have D2 := hide (below_next D1.out be); clear be; have R3 := hide ((D2.out.block _ (lt_heap R2.out)).trans R2.out)) | ((with_reducible refine at_list ?_); first | refine wpList_loadS AHd _ rfl w.heap.size rfl C CZ.out 48 R1.out (by rfl) ?_ | refine wpList_storeA A25 rfl _ _ rfl (w.heap.size + 1) (hc D) (by rw [hc_size, IL.out]) (hc_one _) rfl rfl (hc zeros) (by rw [hc_size, zeros_len]) 46 R3.out ?_))
  exact bodyPost_ret (v := .agg (hc D)) (resA A25 Tryz.results20 _ _ (w.heap.size + 1) 46 _ (by rw [hc_size, IL.out]) rfl (setRow_heap _ _ _ _ _ _ R3.out)) rfl ⟨rfl, below_setRow (below_next B1.out D2.out) (by omega) _⟩
theorem hmeets_any (h : Hd) (w : World) (hK : Kg w) : Calls Tryz.prog 87 #[.agg h.cells.toArray] w fun e w' => e = .returned (.bool h.meets) ∧ Below w.heap.size w w' := by
  have HI : Hid (∀ W, Kg W → Calls Tryz.prog 20 #[.agg h.cells.toArray] W fun e w' => e = .returned (.agg (hc h.id)) ∧ Below W.heap.size W w') := fun W k => hid_any h W k
  have HM : Hid (∀ W, Calls Tryz.prog 84 #[.agg (hc h.id), .int .u32 (h.bits.toNat : Int)] W fun e w' => e = .returned (.bool h.meets) ∧ Below W.heap.size W w') := fun W => meets_any h.id h.id_len h.bits.toNat h.bits.toNat_lt W
  have R1 := hide (heap_alloc_last w (.cells h.cells.toArray 48))
  have b1 := (Below.refl w.heap.size w).alloc (Nat.le_refl _) (.cells h.cells.toArray 48)
  have B1 := hide b1
  have KS := hide (hK.next b1)
  have CZ := hide h.size
  have RB : Hid (∀ W : World, W.heap[w.heap.size]? = some (.cells h.cells.toArray 48 (0, 0)) → W.cell? ⟨w.heap.size, 66, none⟩ = some (.int .u32 (h.bits.toNat : Int))) := fun W e => by
    have := h.bits0 (rowAt _ e)
    rwa [Nat.zero_add] at this
  clear b1 hK
  generalize h.cells.toArray = C at *
  generalize h.id = D at *
  generalize h.meets = V at *
  generalize (h.bits.toNat : Int) = N at *
  go_enter Tryz.func87, Tryz.ntmps87
  go_upto_region 1 with ((with_reducible refine at_list ?_); refine wpList_boxA rfl _ rfl C rfl ?_)
  generalize w.alloc (.cells C 48) = W0 at *
  have RT : Hid (∀ W, Below W0.heap.size W0 W → W.heap[w.heap.size]? = some (.cells C 48 (0, 0))) := fun W b => (b.block _ (lt_heap R1.out)).trans R1.out
  have DV1 := hide ((Below.refl W0.heap.size W0).drew)
  refine wp_region_held_drew (S := fun W => Below W0.heap.size W0 W) (by kernel_rfl) DV1.out (fun hH => ?_)
  generalize hWd : W0.drew = V1 at *
  clear hWd
  refine wpAnyH_take (i := 0) (v := (.agg C)) rfl (by kernel_rfl) (by kernel_rfl) (by kernel_rfl) (fun _ _ _ h => h) (yl_load (by rfl) _ (by rfl) _ C (by rfl) (fun W hS => ld_row AHd CZ.out (RT.out W hS))) hH ?_
  change wpAnyH _ _ _ _ _ _ _ (Act.put _ (some 3) _) _
  simp only [Act.put, List.setIfInBounds_toArray, List.set_cons_zero, List.set_cons_succ]
  refine wpAnyH_take (i := 2) (v := (.pointer (some ⟨w.heap.size, 66, none⟩))) rfl (by kernel_rfl) (by kernel_rfl) (by kernel_rfl) (fun _ _ _ h => h) (.inl ⟨by rfl, fun W _ => by go_simp⟩) hH ?_
  change wpAnyH _ _ _ _ _ _ _ (Act.put _ (some 5) _) _
  simp only [Act.put, List.setIfInBounds_toArray, List.set_cons_zero, List.set_cons_succ]
  refine wpAnyH_take (i := 3) (v := (.int .u32 N)) rfl (by kernel_rfl) (by kernel_rfl) (by kernel_rfl) (fun _ _ _ h => h) (.inl ⟨by rfl, fun W hS => by have c4 := RB.out W (RT.out W hS); go_simp⟩) hH ?_
  change wpAnyH _ _ _ _ _ _ _ (Act.put _ (some 6) _) _
  simp only [Act.put, List.setIfInBounds_toArray, List.set_cons_zero, List.set_cons_succ]
  refine wpAnyH_ready (rs := [1]) (by kernel_rfl) (by simp) (AllReadyH.cons rfl (fun K1 hK1 => ?_) AllReadyH.nil)
  go_simp
  refine (HI.out V1 (KS.out.next DV1.out)).mono ?_
  rintro r V2 ⟨rfl, be⟩
  have DV2 := hide (below_next DV1.out be)
  clear be
  refine hK1.out _ _ DV2.out (fun hH => ?_)
  clear hK1
  refine wpAnyH_ready (rs := [4]) (by kernel_rfl) (by simp) (AllReadyH.cons rfl (fun K1 hK1 => ?_) AllReadyH.nil)
  go_simp
  refine (HM.out V2).mono ?_
  rintro r V3 ⟨rfl, be⟩
  have DV3 := hide (below_next DV2.out be)
  clear be
  refine hK1.out _ _ DV3.out (fun hH => ?_)
  clear hK1
  refine wpAnyH_take (i := 5) (v := (.bool V)) rfl (by kernel_rfl) (by kernel_rfl) (by kernel_rfl) (fun _ _ _ h => h) (.inl ⟨by rfl, fun W _ => by go_simp⟩) hH ?_
  change wpAnyH _ _ _ _ _ _ _ (Act.put _ (some 2) _) _
  simp only [Act.put, List.setIfInBounds_toArray, List.set_cons_zero, List.set_cons_succ]
  refine wpAnyH_done (by kernel_rfl) ?_ _
  clear hH
  go_wp2
  go_ret
  exact ⟨rfl, below_next B1.out DV3.out⟩
theorem idBehind_any (b : Nat) (t : List UInt8) (n : Nat) (hn : n < 4294967296) (w : World) (hK : Kg w) (hs : t.length < 1000000) (h : Hat w b t) : Calls Tryz.prog 85 #[.pointer (some ⟨b, 0, none⟩), .int .u32 (n : Int)] w fun e w' => e = .returned (.agg (hc (digest (digest (t ++ lowL n 4))))) ∧ Below w.heap.size w w' := by
  have b0 := (Below.refl w.heap.size w).alloc (Nat.le_refl _) (.cells (hc zeros) 46)
  have R0 := hide (heap_alloc_last w (.cells (hc zeros) 46))
  have B0 := hide b0
  have H0 := hide (h.below b0)
  have KS := hide (hK.next b0)
  have HS := hide hs
  have LN := hide (lowL_len n 4)
  have hD := hide (digest_len (t ++ lowL n 4))
  have hE := hide (digest_len (digest (t ++ lowL n 4)))
  have TD : Hid ((txt (lowL n 4)).data.toList = lowL n 4) := rfl
  clear b0 hK h hs
  go_enter Tryz.func85, Tryz.ntmps85
  go_upto_region 1 with ((with_reducible refine at_list ?_); refine wpList_allocA A25 rfl rfl ?_)
  generalize w.alloc (.cells (hc zeros) 46) = W0 at *
  go_upto_region 2 with (go_at_call 121; refine (newWriter_any _).mono ?_; rintro e W2 ⟨rfl, rfl⟩)
  have J0 := hide (Wb.new W0)
  generalize W0.alloc (.cells #[.slice none 0 0] 364) = W1 at *
  generalize hb : W0.heap.size = c at *
  go_upto_region 3 with (go_at_call 123; refine (wU32 (pb c) [] n hn _ (by simp) J0.out.st).mono ?_; rintro e W2 ⟨rfl, j1, f1⟩; have J1 := hide (J0.out.step j1 f1); clear j1 f1)
  rw [List.nil_append] at J1
  clear J0
  have H1 := hide (H0.out.below J1.out.bel)
  go_upto_region 4 with (go_at_call 175; refine (clone_any b t _ H1.out).mono ?_; rintro e W3 ⟨b3, rfl, h3, be, hb3⟩; have H3 := hide h3; have J2 := hide (J1.out.next be); have G3 := hide hb3; clear h3 be hb3)
  have D3 := hide (show Below W0.heap.size W0 W3 from J2.out.bel)
  have N3 : Hid (b3 ≠ 0 ∧ W0.heap.size ≤ b3) := ⟨by have := KS.out.lt; have := G3.out; have := J1.out.bel.size; omega, by have := G3.out; have := J1.out.bel.size; omega⟩
  go_upto_region 5 with (first | (go_at_call 127; refine (wText c (lowL n 4) _ J2.out.st).mono ?_; rintro e W9 ⟨rfl, h9⟩; subst W9) | (go_at_call 83; refine (write_any b3 t (txt (lowL n 4)) _ (KS.out.next D3.out) N3.out.1 (by have := HS.out; rw [txt_sz, LN.out]; omega) H3.out).mono ?_; rintro e W4 ⟨rfl, h4, f4⟩; have H4 := hide h4; have D4 := hide (D3.out.trans (f4.to_below N3.out.2 D3.out.size)); clear h4 f4))
  rw [TD.out] at H4
  clear J1 J2 H1 H3 D3 G3 H0
  go_upto_region 6 with (first | (go_at_call 176; refine (hsum_any b3 (t ++ lowL n 4) _ (KS.out.next D4.out) (by have := HS.out; rw [List.length_append, LN.out]; omega) H4.out).mono ?_; rintro e W5 ⟨rfl, be⟩; have D5 := hide (below_next D4.out be); clear be) | ((with_reducible refine at_list ?_); first | refine wpList_allocA A25 rfl rfl ?_ | refine wpList_store_newA A25 rfl _ _ rfl _ rfl (hc (digest (t ++ lowL n 4))) (by rw [hc_size, hD.out]) (hc_one _) rfl rfl ?_))
  generalize hde : digest (t ++ lowL n 4) = D at *
  have HDE := hide hde
  clear hde
  have hcv := conv_row (W5.alloc (.cells (hc D) 46)) W5.heap.size D hD.out 46 (heap_alloc_last _ _)
  have D6 := hide (below_next D5.out ((Below.refl W5.heap.size W5).alloc (Nat.le_refl _) (.cells (hc D) 46)))
  have HT := hide fun W hW => sum_any ⟨D.toArray⟩ (by show D.toArray.size < _; rw [List.size_toArray, hD.out]; omega) W hW
  rw [show (⟨D.toArray⟩ : ByteArray).data.toList = D from rfl] at HT
  generalize hee : digest D = E at *
  have HEE := hide hee
  clear hee
  clear D5 D4 H4
  generalize W5.alloc (.cells (hc D) 46) = W6 at *
  generalize W5.heap.size = g7 at *
  go_wp2_with (first | (go_at_call 167; refine (HT.out _ (KS.out.next D6.out)).mono ?_; rintro r W7 ⟨rfl, be⟩; have D7 := hide (below_next D6.out be); clear be; have R7 := hide ((D7.out.block _ (lt_heap R0.out)).trans R0.out)) | ((with_reducible refine at_list ?_); refine wpList_storeA A25 rfl _ _ rfl w.heap.size (hc E) (by rw [hc_size, hE.out]) (hc_one _) rfl rfl (hc zeros) (by rw [hc_size, zeros_len]) 46 R7.out ?_))
  exact bodyPost_ret (v := .agg (hc E)) (resA A25 Tryz.results85 _ _ w.heap.size 46 _ (by rw [hc_size, hE.out]) rfl (setRow_heap _ _ _ _ _ _ R7.out)) rfl ⟨by rw [HDE.out, HEE.out], below_setRow (below_next B0.out D7.out) (Nat.le_refl _) _⟩
end
end Go.Proofs.YtofddbjnncgmlaaGreatDoor
