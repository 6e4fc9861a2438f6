/- The contract of sha.spread: the schedule of a block. -/
import Derived.Test.YtfldpejdpinppaaDoorB
namespace Go.Proofs.YtfldpejdpinppaaDoor
open Go.RowKit
open Go.Deep
theorem blk3 (w : World) (A B C : Obj) : (((w.alloc A).alloc B).alloc C).heap[w.heap.size]? = some A ∧ (((w.alloc A).alloc B).alloc C).heap[w.heap.size + 1]? = some B ∧ (((w.alloc A).alloc B).alloc C).heap[w.heap.size + 1 + 1]? = some C := by
  have e1 := heap_alloc_last w A
  have e2 := heap_alloc_last (w.alloc A) B
  have e3 := heap_alloc_last ((w.alloc A).alloc B) C
  have s1 : (w.alloc A).heap.size = w.heap.size + 1 := by simp
  have s2 : ((w.alloc A).alloc B).heap.size = w.heap.size + 1 + 1 := by simp
  rw [s1] at e2
  rw [s2] at e3
  exact ⟨(Below.heap_alloc _ C _ (by omega)).trans ((Below.heap_alloc _ B _ (by omega)).trans e1), (Below.heap_alloc _ C _ (by omega)).trans e2, e3⟩
theorem below3 (w : World) (A B C : Obj) : Below w.heap.size w (((w.alloc A).alloc B).alloc C) :=
  (((Below.refl _ _).alloc (Nat.le_refl _) _).alloc (by simp) _).alloc (by simp; omega) _
/-- The schedule while its first 16 words are read: t words stand, of the next one k bytes. -/
def spF (b : List UInt8) (t k j : Nat) : Value := .int .u32 (if j < t then ((ws b j).toNat : Int) else if j = t then ((part b t k : Nat) : Int) else 0)
/-- The schedule while it is spread: t words stand. -/
def sqF (b : List UInt8) (t j : Nat) : Value := .int .u32 (if j < t then ((ws b j).toNat : Int) else 0)
theorem spF_at (b : List UInt8) (t k : Nat) : spF b t k t = .int .u32 ((part b t k : Nat) : Int) := by
  simp [spF]
theorem or_part (b : List UInt8) (t k : Nat) (hk : k < 4) : bits .or .u32 (((part b t k : Nat) : Int) * 256 % 4294967296) ((by8 b (4 * t + k) : Int) % 4294967296) = ((part b t (k + 1) : Nat) : Int) := by
  have h1 := part_lt b t k
  have h2 : 256 ^ k ≤ 256 ^ 3 := Nat.pow_le_pow_right (by decide) (by omega)
  have h3 := by8_lt b (4 * t + k)
  have h4 : part b t k < 16777216 := by omega
  have e : ((part b t k : Nat) : Int) * 256 % 4294967296 = (part b t k : Int) * 256 := by omega
  have e2 : ((by8 b (4 * t + k) : Nat) : Int) % 4294967296 = (by8 b (4 * t + k) : Int) := by omega
  rw [e, e2, bits_join .u32 32 (by decide) (fun n h0 h1 => by rw [wrapU]; omega) 8 _ _ (by omega) (by omega) (by omega) (by omega) (by omega) (by omega), part]
  omega
theorem spF_step (b : List UInt8) (t k j : Nat) : (if j = t then Value.int .u32 ((part b t (k + 1) : Nat) : Int) else spF b t k j) = spF b t (k + 1) j := by
  unfold spF
  by_cases e : j = t
  · subst e; simp
  · rw [if_neg e]; simp [e]
theorem spF_next (b : List UInt8) (t : Nat) (ht : t < 16) (j : Nat) : spF b t 4 j = spF b (t + 1) 0 j := by
  unfold spF
  by_cases e : j = t
  · subst e
    rw [if_neg (by omega), if_pos rfl, if_pos (by omega), part4, ws_low b j ht]
  · by_cases e2 : j < t
    · rw [if_pos e2, if_pos (by omega)]
    · rw [if_neg e2, if_neg e, if_neg (by omega)]
      simp [part]
theorem spF_end (b : List UInt8) (j : Nat) : spF b 16 0 j = sqF b (16 + 0) j := by
  unfold spF sqF
  simp [part]
theorem sqF_at (b : List UInt8) (t j : Nat) (h : j < t) : sqF b t j = .int .u32 ((ws b j).toNat : Int) := by
  simp [sqF, h]
theorem sqF_step (b : List UInt8) (k j : Nat) : (if j = k + 16 then Value.int .u32 ((ws b (k + 16)).toNat : Int) else sqF b (16 + k) j) = sqF b (16 + (k + 1)) j := by
  unfold sqF
  by_cases e : j = k + 16
  · subst e
    rw [if_pos rfl, if_pos (by omega)]
  · rw [if_neg e]
    by_cases e2 : j < 16 + k
    · rw [if_pos e2, if_pos (by omega)]
    · rw [if_neg e2, if_neg (by omega)]
theorem ws_next (b : List UInt8) (k : Nat) : ws b (k + 16) = shf (ws b (k + 14)) 17 19 10 + ws b (k + 9) + shf (ws b (k + 1)) 7 18 3 + ws b k := by
  rw [ws_high b (k + 16) (by omega)]
  congr 1
section
set_option maxRecDepth 10000
set_option maxHeartbeats 1000000
theorem spread_any (b : List UInt8) (hl : b.length = 64) (w : World) : Calls Tryd.prog 71 #[.agg (hc b)] w fun e w' => e = .returned (.agg (uc (sch b 64))) ∧ Below w.heap.size w w' := by
  go_enter Tryd.func71, Tryd.ntmps71
  go_wp2_with (first | refine wpList_boxA rfl _ rfl (hc b) rfl ?_ | refine wpList_allocA A66 rfl rfl ?_)
  obtain ⟨b0, b1, b2⟩ := blk3 w (.cells (hc b) 90) (.cells (uc zw64) 102) (.cells (uc zw64) 102)
  have R0 := hide (row_of (by rw [hc_size, hl]) b0 (fun i hi => hc_at b i (by omega)))
  have R1 := hide b1
  have R2 : Hid ((((w.alloc (.cells (hc b) 90)).alloc (.cells (uc zw64) 102)).alloc (.cells (uc zw64) 102)).rowIs (w.heap.size + 1 + 1) 102 64 (spF b 0 0)) := row_of (by rw [uc_size, zw64_len]) b2 (fun i hi => by
    rw [uc_at _ _ (by rw [zw64_len]; omega)]
    rw [zw64, List.getD_eq_getElem?_getD, List.getElem?_replicate, if_pos hi]
    simp [spF, part])
  have BB := hide (below3 w (.cells (hc b) 90) (.cells (uc zw64) 102) (.cells (uc zw64) 102))
  clear b0 b1 b2
  go_loopw [7] (fun c wr => ∃ t : Nat, t ≤ 16 ∧ c = .int .i64 t ∧ Hid (wr.rowIs w.heap.size 90 64 (fun i => .int .u8 (by8 b i : Int))) ∧ Hid (wr.heap[w.heap.size + 1]? = some (.cells (uc zw64) 102 (0, 0))) ∧ Hid (wr.rowIs (w.heap.size + 1 + 1) 102 64 (spF b t 0)) ∧ Hid (Below w.heap.size w wr)) (fun c _ => (16 - intOf c).toNat)
  case atStart => exact ⟨0, by omega, rfl, R0, R1, R2, BB⟩
  case round =>
    clear R0 R1 R2 BB
    obtain ⟨t, ht, rfl, r0, r1, r2, bb⟩ := hrel
    by_cases hlt : t < 16
    · go_wp2
      go_loopw [10] (fun c ws => ∃ k : Nat, k ≤ 4 ∧ c = .int .i64 k ∧ Hid (ws.rowIs w.heap.size 90 64 (fun i => .int .u8 (by8 b i : Int))) ∧ Hid (ws.heap[w.heap.size + 1]? = some (.cells (uc zw64) 102 (0, 0))) ∧ Hid (ws.rowIs (w.heap.size + 1 + 1) 102 64 (spF b t k)) ∧ Hid (Below w.heap.size w ws)) (fun c _ => (4 - intOf c).toNat)
      case atStart => exact ⟨0, by omega, rfl, r0, r1, r2, bb⟩
      case round =>
        clear r0 r1 r2 bb
        obtain ⟨k, hk, rfl, r0, r1, r2, bb⟩ := hrel
        by_cases hk4 : k < 4
        · have c0 := r0.out.cell (show 4 * t + k < 64 by omega)
          have c2 := r2.out.cell (show t < 64 by omega)
          have f2 := r2.out.frozen t
          have e1 : (4 * (t : Int) + k).toNat = 4 * t + k := by omega
          have t0 : (0 : Int) ≤ t := by omega
          have t1 : (t : Int) < 64 := by omega
          have t2 : (0 : Int) ≤ 4 * t + k := by omega
          have t3 : 4 * (t : Int) + k < 64 := by omega
          have hor := or_part b t k hk4
          rw [spF_at] at c2
          go_wp2
          go_region
          all_goals go_wp2
          all_goals
            refine ⟨⟨k + 1, by omega, by go_num, hide ((r0.out.setOther (by simp; omega) _).drew), hide ((blk_setCell_other _ _ _ _ (by simp)).trans r1.out), hide (((r2.out.set _ _).congr (fun i hi => ?_)).drew), hide ((bb.out.setCell (by simp; omega) _).drew)⟩, by simp [intOf]; omega⟩
            exact spF_step b t k i
        · have hke : k = 4 := by omega
          subst hke
          go_wp2
          exact ⟨⟨t + 1, by omega, by go_num, r0, r1, hide (r2.out.congr (fun i hi => spF_next b t hlt i)), bb⟩, by simp [intOf]; omega⟩
    · have hte : t = 16 := by omega
      subst hte
      rw [show ((16 : Nat) : Int) = 16 from rfl]
      go_wp2
      go_loopw [29] (fun c ws => ∃ k : Nat, k ≤ 48 ∧ c = .int .i64 k ∧ Hid (ws.heap[w.heap.size + 1]? = some (.cells (uc zw64) 102 (0, 0))) ∧ Hid (ws.rowIs (w.heap.size + 1 + 1) 102 64 (sqF b (16 + k))) ∧ Hid (Below w.heap.size w ws)) (fun c _ => (48 - intOf c).toNat)
      case atStart => exact ⟨0, by omega, rfl, r1, hide (r2.out.congr (fun i hi => spF_end b i)), bb⟩
      case round =>
        clear r0 r1 r2 bb
        obtain ⟨k, hk, rfl, r1, r2, bb⟩ := hrel
        by_cases hk4 : k < 48
        · have c0 := r2.out.cell (show k < 64 by omega)
          have c1 := r2.out.cell (show k + 1 < 64 by omega)
          have c9 := r2.out.cell (show k + 9 < 64 by omega)
          have c14 := r2.out.cell (show k + 14 < 64 by omega)
          have f2 := r2.out.frozen (k + 16)
          have c16 := r2.out.cell (show k + 16 < 64 by omega)
          rw [sqF_at b _ _ (by omega)] at c0 c1 c9 c14
          have e1 : ((k : Int) + 1).toNat = k + 1 := by omega
          have e9 : ((k : Int) + 9).toNat = k + 9 := by omega
          have e14 : ((k : Int) + 14).toNat = k + 14 := by omega
          have e16 : ((k : Int) + 16).toNat = k + 16 := by omega
          have b0 : (0 : Int) ≤ k := by omega
          have b1 : (k : Int) < 64 := by omega
          have b2 : (0 : Int) ≤ (k : Int) + 1 := by omega
          have b3 : (k : Int) + 1 < 64 := by omega
          have b4 : (0 : Int) ≤ (k : Int) + 9 := by omega
          have b5 : (k : Int) + 9 < 64 := by omega
          have b6 : (0 : Int) ≤ (k : Int) + 14 := by omega
          have b7 : (k : Int) + 14 < 64 := by omega
          have b8 : (0 : Int) ≤ (k : Int) + 16 := by omega
          have b9 : (k : Int) + 16 < 64 := by omega
          have q1 : IntKind.i64.wrap ((k : Int) + 1) = k + 1 := wrapI _ (by omega) (by omega)
          have q9 : IntKind.i64.wrap ((k : Int) + 9) = k + 9 := wrapI _ (by omega) (by omega)
          have q14 : IntKind.i64.wrap ((k : Int) + 14) = k + 14 := wrapI _ (by omega) (by omega)
          have q16 : IntKind.i64.wrap ((k : Int) + 16) = k + 16 := wrapI _ (by omega) (by omega)
          have W := hide (ws_next b k)
          generalize ws b k = x0 at *
          generalize ws b (k + 1) = x1 at *
          generalize ws b (k + 9) = x9 at *
          generalize ws b (k + 14) = x14 at *
          have H1 := hide fun W => shifted_any x14 17 19 10 17 19 10 rfl rfl rfl (by omega) (by omega) (by omega) (by omega) (by omega) (by omega) W
          have H2 := hide fun W => shifted_any x1 7 18 3 7 18 3 rfl rfl rfl (by omega) (by omega) (by omega) (by omega) (by omega) (by omega) W
          go_wp2
          go_region_held3 (fun w' => w'.cell? ⟨w.heap.size + 1 + 1, k, none⟩ = some (.int .u32 (x0.toNat : Int)) ∧ w'.cell? ⟨w.heap.size + 1 + 1, k + 1, none⟩ = some (.int .u32 (x1.toNat : Int)) ∧ w'.cell? ⟨w.heap.size + 1 + 1, k + 9, none⟩ = some (.int .u32 (x9.toNat : Int)) ∧ w'.cell? ⟨w.heap.size + 1 + 1, k + 14, none⟩ = some (.int .u32 (x14.toNat : Int))) (first | go_keep | (refine ⟨?_, ?_, ?_, ?_⟩ <;> (rw [cell_set_ne _ _ _ _ _ (by omega)]; simp [*]))) (first | (go_at_call_of 81 (Value.int .u32 (x14.toNat : Int)); refine (H1.out _).mono ?_; rintro e w3 ⟨rfl, n3, rfl⟩) | (go_at_call_of 81 (Value.int .u32 (x1.toNat : Int)); refine (H2.out _).mono ?_; rintro e w3 ⟨rfl, n4, rfl⟩))
          all_goals go_wp2
          all_goals
            refine ⟨⟨k + 1, by omega, by go_num, hide ((blk_setCell_other _ _ _ _ (by simp)).trans r1.out), hide ((r2.out.set _ _).congr (fun i hi => ?_)), hide ((below_drewN bb.out _).setCell (by simp; omega) _)⟩, by simp [intOf]; omega⟩
            rw [addU, addU, addU, ← W.out]
            exact sqF_step b k i
        · have hke : k = 48 := by omega
          subst hke
          have H2 : wr.heap[w.heap.size + 1 + 1]? = some (.cells (uc (sch b 64)) 102 (0, 0)) := of_row (by rw [uc_size, sch_len]) r2.out (fun i hi => by rw [uc_at _ _ (by rw [sch_len]; omega), sch_at b 64 i hi, sqF_at b _ i hi])
          go_wp2_with (first | refine wpList_loadA A66 rfl _ rfl _ rfl (uc (sch b 64)) (by rw [uc_size, sch_len]) 102 H2 ?_ | refine wpList_storeA A66 rfl _ _ rfl _ (uc (sch b 64)) (by rw [uc_size, sch_len]) (uc_one _) rfl rfl (uc zw64) (by rw [uc_size, zw64_len]) 102 r1.out ?_)
          exact bodyPost_ret (v := .agg (uc (sch b 64))) (resA A66 Tryd.results71 _ _ (w.heap.size + 1) 102 _ (by rw [uc_size, sch_len]) rfl (setRow_heap _ _ _ _ _ _ r1.out)) rfl ⟨rfl, below_setRow bb.out (by omega) _⟩
end
end Go.Proofs.YtfldpejdpinppaaDoor
