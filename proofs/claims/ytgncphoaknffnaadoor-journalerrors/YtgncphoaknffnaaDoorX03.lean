/- The first state, and a state's bytes: the contracts of First, laid, and the document's First and Bytes. -/
import Derived.Test.YtgncphoaknffnaaDoorX02
namespace Go.Proofs.YtgncphoaknffnaaDoor
open Go.RowKit
open Go.Deep
/-- The byte j of a word, the highest first. -/
def wb (x : UInt32) (j : Nat) : UInt8 := UInt8.ofNat (x.toNat / 2 ^ (24 - 8 * j))
/-- The byte k of a state. -/
def sb (s : St) (k : Nat) : UInt8 := wb (s.at (k / 4)) (k % 4)
/-- A state's bytes. -/
def St.bytes (s : St) : List UInt8 := (List.range 32).map (sb s)
theorem bytes_len (s : St) : s.bytes.length = 32 := by simp [St.bytes]
theorem bytes_at (s : St) (k : Nat) (h : k < 32) : (hc s.bytes)[k]? = some (.int .u8 ((sb s k).toNat : Int)) := by
  rw [hc_at _ _ (by rw [bytes_len]; exact h)]
  simp [by8, St.bytes, h]
/-- The bytes while they are laid: n of them stand. -/
def laF (s : St) (n j : Nat) : Value := .int .u8 (if j < n then ((sb s j).toNat : Int) else 0)
theorem laF_step (s : St) (n j : Nat) : (if j = n then Value.int .u8 ((sb s n).toNat : Int) else laF s n j) = laF s (n + 1) j := by
  unfold laF
  by_cases e : j = n
  · subst e
    rw [if_pos rfl, if_pos (by omega)]
  · rw [if_neg e]
    by_cases e2 : j < n
    · rw [if_pos e2, if_pos (by omega)]
    · rw [if_neg e2, if_neg (by omega)]
theorem sb_eq (s : St) (i j : Nat) (hj : j < 4) : ((s.at i).toNat : Int) / 2 ^ (24 - 8 * j) % 256 = ((sb s (4 * i + j)).toNat : Int) := by
  have e1 : (4 * i + j) / 4 = i := by omega
  have e2 : (4 * i + j) % 4 = j := by omega
  rw [sb, e1, e2, wb, UInt8.toNat_ofNat']
  simp
section
set_option maxRecDepth 10000
set_option maxHeartbeats 1000000
theorem first_any (w : World) : Calls Tryd.prog 106 #[] w fun e w' => e = .returned (.agg (uc first.list)) ∧ Below w.heap.size w w' := by
  go_enter Tryd.func106, Tryd.ntmps106
  go_wp2_with (first | refine wpList_allocA A31 rfl rfl ?_ | refine wpList_store_newA A31 rfl _ _ rfl _ rfl (uc first.list) rfl (uc_one _) rfl rfl ?_)
  exact bodyPost_ret (v := .agg (uc first.list)) (resA A31 Tryd.results106 _ _ w.heap.size 140 _ rfl rfl (heap_alloc_last _ _)) rfl ⟨rfl, (Below.refl _ _).alloc (Nat.le_refl _) _⟩
theorem rfirst_any (w : World) : Calls Tryd.prog 94 #[] w fun e w' => e = .returned (.agg (uc first.list)) ∧ Below w.heap.size w w' := by
  go_enter Tryd.func94, Tryd.ntmps94
  go_wp2_with (first | refine wpList_allocA A30 rfl rfl ?_ | refine wpList_store_newA A30 rfl _ _ rfl _ rfl (uc first.list) rfl (uc_one _) rfl rfl ?_)
  exact bodyPost_ret (v := .agg (uc first.list)) (resA A30 Tryd.results94 _ _ w.heap.size 128 _ rfl rfl (heap_alloc_last _ _)) rfl ⟨rfl, (Below.refl _ _).alloc (Nat.le_refl _) _⟩
theorem laid_any (s : St) (w : World) : Calls Tryd.prog 109 #[.agg (uc s.list)] w fun e w' => e = .returned (.agg (hc s.bytes)) ∧ Below w.heap.size w w' := by
  go_enter Tryd.func109, Tryd.ntmps109
  go_wp2_with (first | refine wpList_boxA rfl _ rfl (uc s.list) rfl ?_ | refine wpList_allocA A25 rfl rfl ?_)
  obtain ⟨b0, b1, b2⟩ := blk3 w (.cells (uc s.list) 140) (.cells (hc zeros) 90) (.cells (hc zeros) 90)
  have R0 := hide (row_of (c := uc s.list) rfl b0 (fun i hi => st_at s i hi))
  have R1 := hide b1
  have R2 : Hid ((((w.alloc (.cells (uc s.list) 140)).alloc (.cells (hc zeros) 90)).alloc (.cells (hc zeros) 90)).rowIs (w.heap.size + 1 + 1) 90 32 (laF s (4 * 0))) := row_of (by rw [hc_size, zeros_len]) b2 (fun i hi => by
    rw [hc_at _ _ (by rw [zeros_len]; omega), by8, zeros, List.getD_eq_getElem?_getD, List.getElem?_replicate, if_pos hi]
    simp [laF])
  have BB := hide (below3 w (.cells (uc s.list) 140) (.cells (hc zeros) 90) (.cells (hc zeros) 90))
  clear b0 b1 b2
  go_loopw [6] (fun c wr => ∃ i : Nat, i ≤ 8 ∧ c = .int .i64 i ∧ Hid (wr.rowIs w.heap.size 140 8 (fun j => .int .u32 ((s.at j).toNat : Int))) ∧ Hid (wr.heap[w.heap.size + 1]? = some (.cells (hc zeros) 90 (0, 0))) ∧ Hid (wr.rowIs (w.heap.size + 1 + 1) 90 32 (laF s (4 * i))) ∧ Hid (Below w.heap.size w wr)) (fun c _ => (8 - intOf c).toNat)
  case atStart => exact ⟨0, by omega, rfl, R0, R1, R2, BB⟩
  case round =>
    clear R0 R1 R2 BB
    obtain ⟨i, hi, rfl, r0, r1, r2, bb⟩ := hrel
    by_cases hlt : i < 8
    · go_wp2
      go_loopw [9] (fun c wr => ∃ j : Nat, j ≤ 4 ∧ c = .int .i64 j ∧ Hid (wr.rowIs w.heap.size 140 8 (fun j => .int .u32 ((s.at j).toNat : Int))) ∧ Hid (wr.heap[w.heap.size + 1]? = some (.cells (hc zeros) 90 (0, 0))) ∧ Hid (wr.rowIs (w.heap.size + 1 + 1) 90 32 (laF s (4 * i + j))) ∧ Hid (Below w.heap.size w wr)) (fun c _ => (4 - intOf c).toNat)
      case atStart => exact ⟨0, by omega, rfl, r0, r1, r2, bb⟩
      case round =>
        clear r0 r1 r2 bb
        obtain ⟨j, hj, rfl, r0, r1, r2, bb⟩ := hrel
        by_cases hj4 : j < 4
        · have c0 := r0.out.cell hlt
          have c2 := r2.out.cell (show 4 * i + j < 32 by omega)
          have f2 := r2.out.frozen (4 * i + j)
          have e1 : (4 * (i : Int) + j).toNat = 4 * i + j := by omega
          have t0 : (0 : Int) ≤ i := by omega
          have t1 : (i : Int) < 8 := by omega
          have t2 : (0 : Int) ≤ 4 * i + j := by omega
          have t3 : 4 * (i : Int) + j < 32 := by omega
          have t4 : (0 : Int) ≤ 24 - 8 * j := by omega
          have t5 : (24 : Int) - 8 * j ≤ 32 := by omega
          go_wp2
          refine ⟨⟨j + 1, by omega, by go_num, hide (r0.out.setOther (by simp; omega) _), hide ((blk_setCell_other _ _ _ _ (by simp)).trans r1.out), hide ((r2.out.set _ _).congr (fun k hk => ?_)), hide (bb.out.setCell (by simp; omega) _)⟩, by simp [intOf]; omega⟩
          rw [sb_eq s i j hj4]
          exact laF_step s (4 * i + j) k
        · have hje : j = 4 := by omega
          subst hje
          go_wp2
          exact ⟨⟨i + 1, by omega, by go_num, r0, r1, r2, bb⟩, by simp [intOf]; omega⟩
    · have hie : i = 8 := by omega
      subst hie
      have H2 : wr.heap[w.heap.size + 1 + 1]? = some (.cells (hc s.bytes) 90 (0, 0)) := of_row (by rw [hc_size, bytes_len]) r2.out (fun i hi => by rw [bytes_at s i hi]; simp [laF, hi])
      go_wp2_with (first | refine wpList_loadA A25 rfl _ rfl _ rfl (hc s.bytes) (by rw [hc_size, bytes_len]) 90 H2 ?_ | refine wpList_storeA A25 rfl _ _ rfl _ (hc s.bytes) (by rw [hc_size, bytes_len]) (hc_one _) rfl rfl (hc zeros) (by rw [hc_size, zeros_len]) 90 r1.out ?_)
      exact bodyPost_ret (v := .agg (hc s.bytes)) (resA A25 Tryd.results109 _ _ (w.heap.size + 1) 90 _ (by rw [hc_size, bytes_len]) rfl (setRow_heap _ _ _ _ _ _ r1.out)) rfl ⟨rfl, below_setRow bb.out (by omega) _⟩
theorem rbytes_any (s : St) (w : World) : Calls Tryd.prog 96 #[.agg (uc s.list)] w fun e w' => e = .returned (.agg (hc s.bytes)) ∧ Below w.heap.size w w' := by
  go_enter Tryd.func96, Tryd.ntmps96
  go_wp2_with (first | refine wpList_boxA rfl _ rfl (uc s.list) rfl ?_ | refine wpList_allocA A24 rfl rfl ?_ | refine wpList_buildA A24 rfl rfl ?_ | refine wpList_store_newA A24 rfl _ _ rfl _ rfl (hc zeros) (by rw [hc_size, zeros_len]) (hc_one _) rfl rfl ?_)
  obtain ⟨b0, b1, b2⟩ := blk3 w (.cells (uc s.list) 128) (.cells (hc zeros) 89) (.cells (hc zeros) 89)
  have R0 := hide (row_of (c := uc s.list) rfl b0 (fun i hi => st_at s i hi))
  have R1 := hide b1
  have R2 : Hid ((((w.alloc (.cells (uc s.list) 128)).alloc (.cells (hc zeros) 89)).alloc (.cells (hc zeros) 89)).rowIs (w.heap.size + 1 + 1) 89 32 (laF s (4 * 0))) := row_of (by rw [hc_size, zeros_len]) b2 (fun i hi => by
    rw [hc_at _ _ (by rw [zeros_len]; omega), by8, zeros, List.getD_eq_getElem?_getD, List.getElem?_replicate, if_pos hi]
    simp [laF])
  have BB := hide (below3 w (.cells (uc s.list) 128) (.cells (hc zeros) 89) (.cells (hc zeros) 89))
  clear b0 b1 b2
  go_loopw [4] (fun c wr => ∃ i : Nat, i ≤ 8 ∧ c = .int .i64 i ∧ Hid (wr.rowIs w.heap.size 128 8 (fun j => .int .u32 ((s.at j).toNat : Int))) ∧ Hid (wr.heap[w.heap.size + 1]? = some (.cells (hc zeros) 89 (0, 0))) ∧ Hid (wr.rowIs (w.heap.size + 1 + 1) 89 32 (laF s (4 * i))) ∧ Hid (Below w.heap.size w wr)) (fun c _ => (8 - intOf c).toNat)
  case atStart => exact ⟨0, by omega, rfl, R0, R1, R2, BB⟩
  case round =>
    clear R0 R1 R2 BB
    obtain ⟨i, hi, rfl, r0, r1, r2, bb⟩ := hrel
    by_cases hlt : i < 8
    · go_wp2
      go_loopw [5] (fun c wr => ∃ j : Nat, j ≤ 4 ∧ c = .int .i64 j ∧ Hid (wr.rowIs w.heap.size 128 8 (fun j => .int .u32 ((s.at j).toNat : Int))) ∧ Hid (wr.heap[w.heap.size + 1]? = some (.cells (hc zeros) 89 (0, 0))) ∧ Hid (wr.rowIs (w.heap.size + 1 + 1) 89 32 (laF s (4 * i + j))) ∧ Hid (Below w.heap.size w wr)) (fun c _ => (4 - intOf c).toNat)
      case atStart => exact ⟨0, by omega, rfl, r0, r1, r2, bb⟩
      case round =>
        clear r0 r1 r2 bb
        obtain ⟨j, hj, rfl, r0, r1, r2, bb⟩ := hrel
        by_cases hj4 : j < 4
        · have c0 := r0.out.cell hlt
          have c2 := r2.out.cell (show 4 * i + j < 32 by omega)
          have f2 := r2.out.frozen (4 * i + j)
          have e1 : (4 * (i : Int) + j).toNat = 4 * i + j := by omega
          have t0 : (0 : Int) ≤ i := by omega
          have t1 : (i : Int) < 8 := by omega
          have t2 : (0 : Int) ≤ 4 * i + j := by omega
          have t3 : 4 * (i : Int) + j < 32 := by omega
          have t4 : (0 : Int) ≤ 24 - 8 * j := by omega
          have t5 : (24 : Int) - 8 * j ≤ 32 := by omega
          go_wp2
          refine ⟨⟨j + 1, by omega, by go_num, hide (r0.out.setOther (by simp; omega) _), hide ((blk_setCell_other _ _ _ _ (by simp)).trans r1.out), hide ((r2.out.set _ _).congr (fun k hk => ?_)), hide (bb.out.setCell (by simp; omega) _)⟩, by simp [intOf]; omega⟩
          rw [sb_eq s i j hj4]
          exact laF_step s (4 * i + j) k
        · have hje : j = 4 := by omega
          subst hje
          go_wp2
          exact ⟨⟨i + 1, by omega, by go_num, r0, r1, r2, bb⟩, by simp [intOf]; omega⟩
    · have hie : i = 8 := by omega
      subst hie
      have H2 : wr.heap[w.heap.size + 1 + 1]? = some (.cells (hc s.bytes) 89 (0, 0)) := of_row (by rw [hc_size, bytes_len]) r2.out (fun i hi => by rw [bytes_at s i hi]; simp [laF, hi])
      go_wp2_with (first | refine wpList_loadA A24 rfl _ rfl _ rfl (hc s.bytes) (by rw [hc_size, bytes_len]) 89 H2 ?_ | refine wpList_storeA A24 rfl _ _ rfl _ (hc s.bytes) (by rw [hc_size, bytes_len]) (hc_one _) rfl rfl (hc zeros) (by rw [hc_size, zeros_len]) 89 r1.out ?_)
      exact bodyPost_ret (v := .agg (hc s.bytes)) (resA A24 Tryd.results96 _ _ (w.heap.size + 1) 89 _ (by rw [hc_size, bytes_len]) rfl (setRow_heap _ _ _ _ _ _ r1.out)) rfl ⟨rfl, below_setRow bb.out (by omega) _⟩
end
end Go.Proofs.YtgncphoaknffnaaDoor
