/- Locks and keys: tx.Lock, tx.Opens, the document's Opens: their contracts. -/
import Derived.Test.YtfldpejdpinppaaDoorKc
import Derived.Test.YtfldpejdpinppaaDoorL2
namespace Go.Proofs.YtfldpejdpinppaaDoor
open Go.RowKit
open Go.Deep
set_option linter.unusedVariables false
/-- A part of a hash, turned into a string. -/
theorem conv_part (w : World) (g : Nat) (l : List UInt8) (o k c : Nat) (hl : o + k ≤ l.length) (t : TypeId) (hg : w.heap[g]? = some (.cells (hc l) t (0, 0))) :
    (convert 53 9 (.slice (some ⟨g, o, none⟩) k c)).run Tryd.prog w = .ok (.string ⟨((l.drop o).take k).toArray⟩) w := by
  have hlen : ((l.drop o).take k).length = k := by rw [List.length_take, List.length_drop]; omega
  have := run_convert_bytes_back (P := Tryd.prog) w 53 9 5 ⟨g, o, none⟩ c ((l.drop o).take k) Tryd.underlying53 Tryd.underlying5 Tryd.underlying9 (fun j hj => by
    have hadd : (⟨g, o, none⟩ : Addr).add j = ⟨g, o + j, none⟩ := by unfold Addr.add; split <;> simp_all
    rw [hlen] at hj
    rw [hadd, cell_of_row w g (o + j) _ t (0, 0) hg, hc_at l (o + j) (by omega), by8]
    simp [List.getElem?_eq_getElem (show o + j < l.length by omega)])
  rwa [hlen] at this
/-- The digest of a key. -/
def dg2 (s : ByteArray) : List UInt8 := digest (digest s.data.toList)
theorem dg2_len (s : ByteArray) : (dg2 s).length = 32 := digest_len _
/-- The lock of n bytes. -/
def lockT (s : ByteArray) (n : Nat) : ByteArray := txt ((dg2 s).take n)
theorem lockT_sz (s : ByteArray) (n : Nat) (h : n ≤ 32) : (lockT s n).size = n := by rw [lockT, txt_sz, List.length_take, dg2_len]; omega
/-- Does a key open a lock? -/
def opB (lock key : ByteArray) : Bool := decide (lock.size ≤ 32) && decide (lockT key lock.size = lock)
theorem opB_empty (key : ByteArray) : opB ⟨#[]⟩ key = true := by
  unfold opB
  rw [Bool.and_eq_true]
  exact ⟨rfl, decide_eq_true (by unfold lockT; rfl)⟩
theorem opB_lock (key : ByteArray) (n : Nat) (h : n ≤ 32) : opB (lockT key n) key = true := by
  unfold opB
  rw [Bool.and_eq_true, lockT_sz key n h]
  exact ⟨decide_eq_true h, decide_eq_true rfl⟩
section
set_option maxRecDepth 10000
set_option maxHeartbeats 4000000
theorem lock_in (key : ByteArray) (hk : key.size ≤ 140737488351232) (n : Nat) (hn : n ≤ 32) (w : World) (hK : Kg w) : Calls Tryd.prog 13 #[.string key, .int .i64 (n : Int)] w fun e w' => e = .returned (.tuple #[.string (lockT key n), .int .i64 0]) ∧ Below w.heap.size w w' := by
  have HT := hide (twice_any key (by omega) w hK)
  have hl := dg2_len key
  have LT : Hid (lockT key n = ⟨((dg2 key).take n).toArray⟩) := rfl
  have CV : Hid (∀ W g, W.heap[g]? = some (.cells (hc (dg2 key)) 31 (0, 0)) → (convert 53 9 (.slice (some ⟨g, 0, none⟩) n 32)).run Tryd.prog W = .ok (.string (lockT key n)) W) := fun W g h => by
    have := conv_part W g (dg2 key) 0 n 32 (by omega) 31 h
    rw [List.drop_zero] at this
    exact this
  have HC : Hid ((hc (dg2 key)).size = 32) := by show _ = _; rw [hc_size, hl]
  have HC1 := hide (hc_one (dg2 key))
  have g1 : (0 : Int) ≤ (n : Int) := by omega
  have g2 : decide (32 < n) = false := decide_eq_false (by omega)
  have g3 : (n : Int) ≤ 32 := by omega
  have g4 : n ≤ 32 := hn
  clear hk hK hl hn
  change Hid (Calls Tryd.prog 27 #[.string key] w fun e w' => e = .returned (.agg (hc (dg2 key))) ∧ Below w.heap.size w w') at HT
  generalize lockT key n = lt at *
  generalize dg2 key = D at *
  go_enter Tryd.func13, Tryd.ntmps13
  go_upto_region 4 with (first | (go_at_call 27; refine HT.out.mono ?_; rintro e W1 ⟨rfl, b1⟩; have B1 := hide b1; clear b1) | ((with_reducible refine at_list ?_); first | refine wpList_allocA A25 rfl rfl ?_ | refine wpList_store_newA A25 rfl _ _ rfl _ rfl (hc D) HC.out HC1.out rfl rfl ?_))
  have cv := CV.out _ _ (heap_alloc_last W1 (.cells (hc D) 31))
  have B2 := hide (below_next B1.out ((Below.refl _ _).alloc (Nat.le_refl _) (.cells (hc D) 31)))
  generalize W1.alloc (.cells (hc D) 31) = W2 at *
  go_wp2
  go_ret2
  exact ⟨rfl, B2.out⟩
theorem lock_out (key : ByteArray) (n : Int) (hn : n < 0 ∨ 32 < n) (w : World) : Calls Tryd.prog 13 #[.string key, .int .i64 n] w fun e w' => e = .returned (.tuple #[.string ⟨#[]⟩, .int .i64 1]) ∧ w' = w := by
  rcases hn with hn | hn
  · go_enter Tryd.func13, Tryd.ntmps13
    go_wp2
    go_ret2
    exact ⟨rfl, rfl⟩
  · have g1 : ¬ n < 0 := by omega
    have g2 : n > 32 := hn
    go_enter Tryd.func13, Tryd.ntmps13
    go_wp2
    go_ret2
    exact ⟨rfl, rfl⟩
theorem opens_any (lock key : ByteArray) (hk : key.size ≤ 140737488351232) (w : World) (hK : Kg w) : Calls Tryd.prog 14 #[.string lock, .string key] w fun e w' => e = .returned (.bool (opB lock key)) ∧ Below w.heap.size w w' := by
  by_cases hn : lock.size ≤ 32
  · have HL := hide (lock_in key hk lock.size hn w hK)
    have hb : opB lock key = ((lockT key lock.size).toList == lock.toList) := by
      rw [bytes_same]
      unfold opB
      rw [decide_eq_true hn, Bool.true_and]
    rw [hb]
    clear hb hn hk hK
    generalize lockT key lock.size = lt at *
    go_enter Tryd.func14, Tryd.ntmps14
    go_wp2_with (go_at_call 13; refine HL.out.mono ?_; rintro e W1 ⟨rfl, b1⟩; have B1 := hide b1; clear b1)
    go_ret
    exact ⟨rfl, B1.out⟩
  · have HL := hide (lock_out key lock.size (.inr (by omega)) w)
    have hb : opB lock key = false := by
      unfold opB
      rw [decide_eq_false hn, Bool.false_and]
    rw [hb]
    clear hb hn hk hK
    go_enter Tryd.func14, Tryd.ntmps14
    go_wp2_with (go_at_call 13; refine HL.out.mono ?_; rintro e W1 ⟨rfl, rfl⟩)
    go_ret
    exact ⟨rfl, Below.refl _ _⟩
theorem ropens_any (lock key : ByteArray) (hk : key.size ≤ 140737488351232) (w : World) : Calls Tryd.prog 15 #[.string lock, .string key] w fun e w' => e = .returned (.bool (opB lock key)) ∧ Below w.heap.size w w' := by
  by_cases h0 : lock.size = 0
  · have hx : lock = ⟨#[]⟩ := ByteArray.ext (Array.eq_empty_of_size_eq_zero h0)
    subst hx
    rw [opB_empty]
    go_enter Tryd.func15, Tryd.ntmps15
    go_wp2
    go_ret
    exact ⟨rfl, Below.refl _ _⟩
  have hne : lock.toList.isEmpty = false := by
    rw [ByteArray.toList_eq]
    cases hx : lock.data.toList with
    | nil => exact absurd (by have := congrArg List.length hx; simpa using this) h0
    | cons a r => rfl
  have HT := hide (rtwice_any key (by omega) w)
  have hl := dg2_len key
  change Hid (Calls Tryd.prog 18 #[.string key] w fun e w' => e = .returned (.agg (hc (dg2 key))) ∧ Below w.heap.size w w') at HT
  have HC : Hid ((hc (dg2 key)).size = 32) := by show _ = _; rw [hc_size, hl]
  have HC1 := hide (hc_one (dg2 key))
  by_cases hn : lock.size ≤ 32
  · have CV : Hid (∀ W g, W.heap[g]? = some (.cells (hc (dg2 key)) 30 (0, 0)) → (convert 53 9 (.slice (some ⟨g, 0, none⟩) lock.size 32)).run Tryd.prog W = .ok (.string (lockT key lock.size)) W) := fun W g h => by
      have := conv_part W g (dg2 key) 0 lock.size 32 (by omega) 30 h
      rw [List.drop_zero] at this
      exact this
    have hb : opB lock key = ((lockT key lock.size).toList == lock.toList) := by
      rw [bytes_same]
      unfold opB
      rw [decide_eq_true hn, Bool.true_and]
    rw [hb]
    have g3 : (lock.size : Int) ≤ 32 := by omega
    have g1 : (0 : Int) ≤ (lock.size : Int) := by omega
    clear hb hk hl h0
    generalize lockT key lock.size = lt at *
    generalize dg2 key = D at *
    go_enter Tryd.func15, Tryd.ntmps15
    go_upto_region 4 with (first | (go_at_call 18; refine HT.out.mono ?_; rintro e W1 ⟨rfl, b1⟩; have B1 := hide b1; clear b1) | ((with_reducible refine at_list ?_); first | refine wpList_allocA A24 rfl rfl ?_ | refine wpList_store_newA A24 rfl _ _ rfl _ rfl (hc D) HC.out HC1.out rfl rfl ?_))
    have cv := CV.out _ _ (heap_alloc_last W1 (.cells (hc D) 30))
    have B2 := hide (below_next B1.out ((Below.refl _ _).alloc (Nat.le_refl _) (.cells (hc D) 30)))
    generalize W1.alloc (.cells (hc D) 30) = W2 at *
    go_wp2
    go_ret
    exact ⟨rfl, B2.out⟩
  · have hb : opB lock key = false := by
      unfold opB
      rw [decide_eq_false hn, Bool.false_and]
    rw [hb]
    have g3 : ¬ (lock.size : Int) ≤ 32 := by omega
    clear hb hk hl h0 hn
    generalize dg2 key = D at *
    go_enter Tryd.func15, Tryd.ntmps15
    go_upto_region 4 with (first | (go_at_call 18; refine HT.out.mono ?_; rintro e W1 ⟨rfl, b1⟩; have B1 := hide b1; clear b1) | ((with_reducible refine at_list ?_); first | refine wpList_allocA A24 rfl rfl ?_ | refine wpList_store_newA A24 rfl _ _ rfl _ rfl (hc D) HC.out HC1.out rfl rfl ?_))
    have B2 := hide (below_next B1.out ((Below.refl _ _).alloc (Nat.le_refl _) (.cells (hc D) 30)))
    generalize W1.alloc (.cells (hc D) 30) = W2 at *
    go_wp2
    go_ret
    exact ⟨rfl, B2.out⟩
end
end Go.Proofs.YtfldpejdpinppaaDoor
