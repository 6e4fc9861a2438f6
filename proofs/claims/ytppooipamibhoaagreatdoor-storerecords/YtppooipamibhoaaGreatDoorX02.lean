/- The contract of sha.spread: the schedule of a block. The contract of sha.Step: the state behind a block. The first state, and a state's bytes: the contracts of First, laid, and the document's First and Bytes. -/
import Derived.Test.YtppooipamibhoaaGreatDoorX01
namespace Go.Proofs.YtppooipamibhoaaGreatDoor
open Go.RowKit
open Go.Deep
theorem blk3 (w : World) (A B C : Obj) : (((w.alloc A).alloc B).alloc C).heap[w.heap.size]? = some A ∧ (((w.alloc A).alloc B).alloc C).heap[w.heap.size + 1]? = some B ∧ (((w.alloc A).alloc B).alloc C).heap[w.heap.size + 1 + 1]? = some C := by
  have e1 := heap_alloc_last w A
  have e2 := heap_alloc_last (w.alloc A) B
  have e3 := heap_alloc_last ((w.alloc A).alloc B) C
  have s1 : (w.alloc A).heap.size = w.heap.size + 1 := by simp
  have s2 : ((w.alloc A).alloc B).heap.size = w.heap.size + 1 + 1 := by simp
  rw [s1] at e2
  rw [s2] at e3
  exact ⟨(Below.heap_alloc _ C _ (by omega)).trans ((Below.heap_alloc _ B _ (by omega)).trans e1), (Below.heap_alloc _ C _ (by omega)).trans e2, e3⟩
theorem below3 (w : World) (A B C : Obj) : Below w.heap.size w (((w.alloc A).alloc B).alloc C) :=
  (((Below.refl _ _).alloc (Nat.le_refl _) _).alloc (by simp) _).alloc (by simp; omega) _
/-- The schedule while its first 16 words are read: t words stand, of the next one k bytes. -/
def spF (b : List UInt8) (t k j : Nat) : Value := .int .u32 (if j < t then ((ws b j).toNat : Int) else if j = t then ((part b t k : Nat) : Int) else 0)
/-- The schedule while it is spread: t words stand. -/
def sqF (b : List UInt8) (t j : Nat) : Value := .int .u32 (if j < t then ((ws b j).toNat : Int) else 0)
theorem spF_at (b : List UInt8) (t k : Nat) : spF b t k t = .int .u32 ((part b t k : Nat) : Int) := by
  simp [spF]
theorem or_part (b : List UInt8) (t k : Nat) (hk : k < 4) : bits .or .u32 (((part b t k : Nat) : Int) * 256 % 4294967296) ((by8 b (4 * t + k) : Int) % 4294967296) = ((part b t (k + 1) : Nat) : Int) := by
  have h1 := part_lt b t k
  have h2 : 256 ^ k ≤ 256 ^ 3 := Nat.pow_le_pow_right (by decide) (by omega)
  have h3 := by8_lt b (4 * t + k)
  have h4 : part b t k < 16777216 := by omega
  have e : ((part b t k : Nat) : Int) * 256 % 4294967296 = (part b t k : Int) * 256 := by omega
  have e2 : ((by8 b (4 * t + k) : Nat) : Int) % 4294967296 = (by8 b (4 * t + k) : Int) := by omega
  rw [e, e2, bits_join .u32 32 (by decide) (fun n h0 h1 => by rw [wrapU]; omega) 8 _ _ (by omega) (by omega) (by omega) (by omega) (by omega) (by omega), part]
  omega
theorem spF_step (b : List UInt8) (t k j : Nat) : (if j = t then Value.int .u32 ((part b t (k + 1) : Nat) : Int) else spF b t k j) = spF b t (k + 1) j := by
  unfold spF
  by_cases e : j = t
  · subst e; simp
  · rw [if_neg e]; simp [e]
theorem spF_next (b : List UInt8) (t : Nat) (ht : t < 16) (j : Nat) : spF b t 4 j = spF b (t + 1) 0 j := by
  unfold spF
  by_cases e : j = t
  · subst e
    rw [if_neg (by omega), if_pos rfl, if_pos (by omega), part4, ws_low b j ht]
  · by_cases e2 : j < t
    · rw [if_pos e2, if_pos (by omega)]
    · rw [if_neg e2, if_neg e, if_neg (by omega)]
      simp [part]
theorem spF_end (b : List UInt8) (j : Nat) : spF b 16 0 j = sqF b (16 + 0) j := by
  unfold spF sqF
  simp [part]
theorem sqF_at (b : List UInt8) (t j : Nat) (h : j < t) : sqF b t j = .int .u32 ((ws b j).toNat : Int) := by
  simp [sqF, h]
theorem sqF_step (b : List UInt8) (k j : Nat) : (if j = k + 16 then Value.int .u32 ((ws b (k + 16)).toNat : Int) else sqF b (16 + k) j) = sqF b (16 + (k + 1)) j := by
  unfold sqF
  by_cases e : j = k + 16
  · subst e
    rw [if_pos rfl, if_pos (by omega)]
  · rw [if_neg e]
    by_cases e2 : j < 16 + k
    · rw [if_pos e2, if_pos (by omega)]
    · rw [if_neg e2, if_neg (by omega)]
theorem ws_next (b : List UInt8) (k : Nat) : ws b (k + 16) = shf (ws b (k + 14)) 17 19 10 + ws b (k + 9) + shf (ws b (k + 1)) 7 18 3 + ws b k := by
  rw [ws_high b (k + 16) (by omega)]
  congr 1
section
set_option maxRecDepth 10000
set_option maxHeartbeats 1000000
theorem spread_any (b : List UInt8) (hl : b.length = 64) (w : World) : Calls Tryz.prog 298 #[.agg (hc b)] w fun e w' => e = .returned (.agg (uc (sch b 64))) ∧ Below w.heap.size w w' := by
  go_enter Tryz.func298, Tryz.ntmps298
  go_wp2_with (first | refine wpList_boxA rfl _ rfl (hc b) rfl ?_ | refine wpList_allocA A66 rfl rfl ?_)
  obtain ⟨b0, b1, b2⟩ := blk3 w (.cells (hc b) 362) (.cells (uc zw64) 423) (.cells (uc zw64) 423)
  have R0 := hide (row_of (by rw [hc_size, hl]) b0 (fun i hi => hc_at b i (by omega)))
  have R1 := hide b1
  have R2 : Hid ((((w.alloc (.cells (hc b) 362)).alloc (.cells (uc zw64) 423)).alloc (.cells (uc zw64) 423)).rowIs (w.heap.size + 1 + 1) 423 64 (spF b 0 0)) := row_of (by rw [uc_size, zw64_len]) b2 (fun i hi => by
    rw [uc_at _ _ (by rw [zw64_len]; omega)]
    rw [zw64, List.getD_eq_getElem?_getD, List.getElem?_replicate, if_pos hi]
    simp [spF, part])
  have BB := hide (below3 w (.cells (hc b) 362) (.cells (uc zw64) 423) (.cells (uc zw64) 423))
  clear b0 b1 b2
  go_loopw [7] (fun c wr => ∃ t : Nat, t ≤ 16 ∧ c = .int .i64 t ∧ Hid (wr.rowIs w.heap.size 362 64 (fun i => .int .u8 (by8 b i : Int))) ∧ Hid (wr.heap[w.heap.size + 1]? = some (.cells (uc zw64) 423 (0, 0))) ∧ Hid (wr.rowIs (w.heap.size + 1 + 1) 423 64 (spF b t 0)) ∧ Hid (Below w.heap.size w wr)) (fun c _ => (16 - intOf c).toNat)
  case atStart => exact ⟨0, by omega, rfl, R0, R1, R2, BB⟩
  case round =>
    clear R0 R1 R2 BB
    obtain ⟨t, ht, rfl, r0, r1, r2, bb⟩ := hrel
    by_cases hlt : t < 16
    · go_wp2
      go_loopw [10] (fun c ws => ∃ k : Nat, k ≤ 4 ∧ c = .int .i64 k ∧ Hid (ws.rowIs w.heap.size 362 64 (fun i => .int .u8 (by8 b i : Int))) ∧ Hid (ws.heap[w.heap.size + 1]? = some (.cells (uc zw64) 423 (0, 0))) ∧ Hid (ws.rowIs (w.heap.size + 1 + 1) 423 64 (spF b t k)) ∧ Hid (Below w.heap.size w ws)) (fun c _ => (4 - intOf c).toNat)
      case atStart => exact ⟨0, by omega, rfl, r0, r1, r2, bb⟩
      case round =>
        clear r0 r1 r2 bb
        obtain ⟨k, hk, rfl, r0, r1, r2, bb⟩ := hrel
        by_cases hk4 : k < 4
        · have c0 := r0.out.cell (show 4 * t + k < 64 by omega)
          have c2 := r2.out.cell (show t < 64 by omega)
          have f2 := r2.out.frozen t
          have e1 : (4 * (t : Int) + k).toNat = 4 * t + k := by omega
          have t0 : (0 : Int) ≤ t := by omega
          have t1 : (t : Int) < 64 := by omega
          have t2 : (0 : Int) ≤ 4 * t + k := by omega
          have t3 : 4 * (t : Int) + k < 64 := by omega
          have hor := or_part b t k hk4
          rw [spF_at] at c2
          go_wp2
          go_region
          all_goals go_wp2
          all_goals
            refine ⟨⟨k + 1, by omega, by go_num, hide ((r0.out.setOther (by simp; omega) _).drew), hide ((blk_setCell_other _ _ _ _ (by simp)).trans r1.out), hide (((r2.out.set _ _).congr (fun i hi => ?_)).drew), hide ((bb.out.setCell (by simp; omega) _).drew)⟩, by simp [intOf]; omega⟩
            exact spF_step b t k i
        · have hke : k = 4 := by omega
          subst hke
          go_wp2
          exact ⟨⟨t + 1, by omega, by go_num, r0, r1, hide (r2.out.congr (fun i hi => spF_next b t hlt i)), bb⟩, by simp [intOf]; omega⟩
    · have hte : t = 16 := by omega
      subst hte
      rw [show ((16 : Nat) : Int) = 16 from rfl]
      go_wp2
      go_loopw [29] (fun c ws => ∃ k : Nat, k ≤ 48 ∧ c = .int .i64 k ∧ Hid (ws.heap[w.heap.size + 1]? = some (.cells (uc zw64) 423 (0, 0))) ∧ Hid (ws.rowIs (w.heap.size + 1 + 1) 423 64 (sqF b (16 + k))) ∧ Hid (Below w.heap.size w ws)) (fun c _ => (48 - intOf c).toNat)
      case atStart => exact ⟨0, by omega, rfl, r1, hide (r2.out.congr (fun i hi => spF_end b i)), bb⟩
      case round =>
        clear r0 r1 r2 bb
        obtain ⟨k, hk, rfl, r1, r2, bb⟩ := hrel
        by_cases hk4 : k < 48
        · have c0 := r2.out.cell (show k < 64 by omega)
          have c1 := r2.out.cell (show k + 1 < 64 by omega)
          have c9 := r2.out.cell (show k + 9 < 64 by omega)
          have c14 := r2.out.cell (show k + 14 < 64 by omega)
          have f2 := r2.out.frozen (k + 16)
          have c16 := r2.out.cell (show k + 16 < 64 by omega)
          rw [sqF_at b _ _ (by omega)] at c0 c1 c9 c14
          have e1 : ((k : Int) + 1).toNat = k + 1 := by omega
          have e9 : ((k : Int) + 9).toNat = k + 9 := by omega
          have e14 : ((k : Int) + 14).toNat = k + 14 := by omega
          have e16 : ((k : Int) + 16).toNat = k + 16 := by omega
          have b0 : (0 : Int) ≤ k := by omega
          have b1 : (k : Int) < 64 := by omega
          have b2 : (0 : Int) ≤ (k : Int) + 1 := by omega
          have b3 : (k : Int) + 1 < 64 := by omega
          have b4 : (0 : Int) ≤ (k : Int) + 9 := by omega
          have b5 : (k : Int) + 9 < 64 := by omega
          have b6 : (0 : Int) ≤ (k : Int) + 14 := by omega
          have b7 : (k : Int) + 14 < 64 := by omega
          have b8 : (0 : Int) ≤ (k : Int) + 16 := by omega
          have b9 : (k : Int) + 16 < 64 := by omega
          have q1 : IntKind.i64.wrap ((k : Int) + 1) = k + 1 := wrapI _ (by omega) (by omega)
          have q9 : IntKind.i64.wrap ((k : Int) + 9) = k + 9 := wrapI _ (by omega) (by omega)
          have q14 : IntKind.i64.wrap ((k : Int) + 14) = k + 14 := wrapI _ (by omega) (by omega)
          have q16 : IntKind.i64.wrap ((k : Int) + 16) = k + 16 := wrapI _ (by omega) (by omega)
          have W := hide (ws_next b k)
          generalize ws b k = x0 at *
          generalize ws b (k + 1) = x1 at *
          generalize ws b (k + 9) = x9 at *
          generalize ws b (k + 14) = x14 at *
          have H1 := hide fun W => shifted_any x14 17 19 10 17 19 10 rfl rfl rfl (by omega) (by omega) (by omega) (by omega) (by omega) (by omega) W
          have H2 := hide fun W => shifted_any x1 7 18 3 7 18 3 rfl rfl rfl (by omega) (by omega) (by omega) (by omega) (by omega) (by omega) W
          go_wp2
          go_region_held3 (fun w' => w'.cell? ⟨w.heap.size + 1 + 1, k, none⟩ = some (.int .u32 (x0.toNat : Int)) ∧ w'.cell? ⟨w.heap.size + 1 + 1, k + 1, none⟩ = some (.int .u32 (x1.toNat : Int)) ∧ w'.cell? ⟨w.heap.size + 1 + 1, k + 9, none⟩ = some (.int .u32 (x9.toNat : Int)) ∧ w'.cell? ⟨w.heap.size + 1 + 1, k + 14, none⟩ = some (.int .u32 (x14.toNat : Int))) (first | go_keep | (refine ⟨?_, ?_, ?_, ?_⟩ <;> (rw [cell_set_ne _ _ _ _ _ (by omega)]; simp [*]))) (first | (go_at_call_of 346 (Value.int .u32 (x14.toNat : Int)); refine (H1.out _).mono ?_; rintro e w3 ⟨rfl, n3, rfl⟩) | (go_at_call_of 346 (Value.int .u32 (x1.toNat : Int)); refine (H2.out _).mono ?_; rintro e w3 ⟨rfl, n4, rfl⟩))
          all_goals go_wp2
          all_goals
            refine ⟨⟨k + 1, by omega, by go_num, hide ((blk_setCell_other _ _ _ _ (by simp)).trans r1.out), hide ((r2.out.set _ _).congr (fun i hi => ?_)), hide ((below_drewN bb.out _).setCell (by simp; omega) _)⟩, by simp [intOf]; omega⟩
            rw [addU, addU, addU, ← W.out]
            exact sqF_step b k i
        · have hke : k = 48 := by omega
          subst hke
          have H2 : wr.heap[w.heap.size + 1 + 1]? = some (.cells (uc (sch b 64)) 423 (0, 0)) := of_row (by rw [uc_size, sch_len]) r2.out (fun i hi => by rw [uc_at _ _ (by rw [sch_len]; omega), sch_at b 64 i hi, sqF_at b _ i hi])
          go_wp2_with (first | refine wpList_loadA A66 rfl _ rfl _ rfl (uc (sch b 64)) (by rw [uc_size, sch_len]) 423 H2 ?_ | refine wpList_storeA A66 rfl _ _ rfl _ (uc (sch b 64)) (by rw [uc_size, sch_len]) (uc_one _) rfl rfl (uc zw64) (by rw [uc_size, zw64_len]) 423 r1.out ?_)
          exact bodyPost_ret (v := .agg (uc (sch b 64))) (resA A66 Tryz.results298 _ _ (w.heap.size + 1) 423 _ (by rw [uc_size, sch_len]) rfl (setRow_heap _ _ _ _ _ _ r1.out)) rfl ⟨rfl, below_setRow bb.out (by omega) _⟩
end
end Go.Proofs.YtppooipamibhoaaGreatDoor
namespace Go.Proofs.YtppooipamibhoaaGreatDoor
open Go.RowKit
open Go.Deep
/-- The package's table holds K0 .. K63. -/
def Kg (w : World) : Prop := ∀ j, j < 64 → w.cell? ⟨0, j, none⟩ = some (.int .u32 ((kk j).toNat : Int))
theorem Kg.lt {w : World} (h : Kg w) : 0 < w.heap.size := by
  have := h 0 (by omega)
  rcases Nat.lt_or_ge 0 w.heap.size with h' | h'
  · exact h'
  · have e : w.heap[0]? = none := Array.getElem?_eq_none h'
    simp [World.cell?, e] at this
theorem Kg.pos {w : World} (h : Kg w) : 0 < w.heap.size := Nat.lt_of_le_of_lt (Nat.zero_le _) h.lt
theorem Kg.below {w w' : World} {B : Nat} (h : Kg w) (hB : 0 < B) (b : Below B w w') : Kg w' := fun j hj => (b.cell (p := ⟨0, j, none⟩) hB).trans (h j hj)
theorem Kg.next {w w' : World} (h : Kg w) (b : Below w.heap.size w w') : Kg w' := h.below h.lt b
theorem Kg.drewN {w : World} (h : Kg w) (n : Nat) : Kg (w.drewN n) := h
theorem addS_at (x y : St) (j : Nat) (h : j < 8) : (addS x y).at j = x.at j + y.at j := by
  rcases j with _ | _ | _ | _ | _ | _ | _ | _ | j
  all_goals first | rfl | omega
theorem st_at (s : St) (k : Nat) (hk : k < 8) : (uc s.list)[k]? = some (.int .u32 ((s.at k).toNat : Int)) := uc_at _ _ hk
/-- The last loop's row: i sums stand. -/
def adF (s r : St) (i j : Nat) : Value := .int .u32 ((if j < i then s.at j + r.at j else r.at j).toNat : Int)
theorem adF_step (s r : St) (i j : Nat) : (if j = i then Value.int .u32 ((r.at i + s.at i).toNat : Int) else adF s r i j) = adF s r (i + 1) j := by
  unfold adF
  by_cases e : j = i
  · subst e
    rw [if_pos rfl, if_pos (by omega), UInt32.add_comm]
  · rw [if_neg e]
    by_cases e2 : j < i
    · rw [if_pos e2, if_pos (by omega)]
    · rw [if_neg e2, if_neg (by omega)]
theorem adF_at (s r : St) (i : Nat) : adF s r i i = .int .u32 ((r.at i).toNat : Int) := by
  simp [adF]
theorem adF_end (s r : St) (j : Nat) (hj : j < 8) : adF s r 8 j = .int .u32 (((addS s r).at j).toNat : Int) := by
  rw [addS_at s r j hj]
  simp [adF, hj]
theorem cells8 {w : World} {g : Nat} {t : TypeId} {s : St} (h : w.heap[g]? = some (.cells (uc s.list) t (0, 0))) :
    w.cell? ⟨g, 0, none⟩ = some (.int .u32 (s.a.toNat : Int)) ∧ w.cell? ⟨g, 1, none⟩ = some (.int .u32 (s.b.toNat : Int)) ∧ w.cell? ⟨g, 2, none⟩ = some (.int .u32 (s.c.toNat : Int)) ∧ w.cell? ⟨g, 3, none⟩ = some (.int .u32 (s.d.toNat : Int)) ∧
    w.cell? ⟨g, 4, none⟩ = some (.int .u32 (s.e.toNat : Int)) ∧ w.cell? ⟨g, 5, none⟩ = some (.int .u32 (s.f.toNat : Int)) ∧ w.cell? ⟨g, 6, none⟩ = some (.int .u32 (s.g.toNat : Int)) ∧ w.cell? ⟨g, 7, none⟩ = some (.int .u32 (s.h.toNat : Int)) :=
  ⟨cell_of_row w g 0 _ t _ h, cell_of_row w g 1 _ t _ h, cell_of_row w g 2 _ t _ h, cell_of_row w g 3 _ t _ h, cell_of_row w g 4 _ t _ h, cell_of_row w g 5 _ t _ h, cell_of_row w g 6 _ t _ h, cell_of_row w g 7 _ t _ h⟩
theorem step_mid {w w1 : World} {A B C : Obj} (x0 : (((w.alloc A).alloc B).alloc C).heap[w.heap.size]? = some A) (x2 : (((w.alloc A).alloc B).alloc C).heap[w.heap.size + 1 + 1]? = some C) (hK : Kg w) (b1 : Below (((w.alloc A).alloc B).alloc C).heap.size (((w.alloc A).alloc B).alloc C) w1) (l : List UInt32) :
    Hid ((w1.alloc (.cells (uc l) 423)).heap[w.heap.size]? = some A) ∧ Hid ((w1.alloc (.cells (uc l) 423)).heap[w.heap.size + 1 + 1]? = some C) ∧ Hid ((w1.alloc (.cells (uc l) 423)).heap[w1.heap.size]? = some (.cells (uc l) 423)) ∧ Hid (Below w.heap.size w (w1.alloc (.cells (uc l) 423))) ∧ Hid (Kg (w1.alloc (.cells (uc l) 423))) := by
  have hN : (((w.alloc A).alloc B).alloc C).heap.size = w.heap.size + 1 + 1 + 1 := by simp
  have hs := b1.size
  have B1 : Below w.heap.size w w1 := (below3 w A B C).trans (b1.mono (by omega))
  have B2 := B1.alloc B1.size (.cells (uc l) 423)
  refine ⟨(Below.heap_alloc _ _ _ (by omega)).trans ((b1.block _ (by omega)).trans x0), (Below.heap_alloc _ _ _ (by omega)).trans ((b1.block _ (by omega)).trans x2), heap_alloc_last _ _, B2, hK.next B2⟩
section
set_option maxRecDepth 10000
set_option maxHeartbeats 1000000
theorem step_any (s : St) (b : List UInt8) (hl : b.length = 64) (w : World) (hK : Kg w) : Calls Tryz.prog 229 #[.agg (uc s.list), .agg (hc b)] w fun e w' => e = .returned (.agg (uc (step s b).list)) ∧ Below w.heap.size w w' := by
  have HS := hide fun W => spread_any b hl W
  have HK := hide hK
  clear hK
  go_enter Tryz.func229, Tryz.ntmps229
  go_upto_region 1 with (first | refine wpList_boxA rfl _ rfl (uc s.list) rfl ?_ | refine wpList_boxA rfl _ rfl (hc b) rfl ?_ | refine wpList_allocA A31 rfl rfl ?_)
  obtain ⟨x0, x1, x2⟩ := blk3 w (.cells (uc s.list) 360) (.cells (hc b) 362) (.cells (uc zw8) 360)
  have X1 := hide x1
  clear x1
  go_upto_region 2 with (first | refine wpList_loadA A35 rfl _ rfl _ rfl (hc b) (by rw [hc_size, hl]) 362 (by simpa using X1.out) ?_ | (go_at_call 298; refine (HS.out _).mono ?_; rintro e w1 ⟨rfl, b1⟩) | refine wpList_allocA A66 rfl rfl ?_ | refine wpList_store_newA A66 rfl _ _ rfl _ rfl (uc (sch b 64)) (by rw [uc_size, sch_len]) (uc_one _) rfl rfl ?_)
  obtain ⟨y0, y2, y3, BB, KK⟩ := step_mid x0 x2 HK.out b1 (sch b 64)
  clear x0 x2 b1 X1 HK HS
  generalize w1.alloc (.cells (uc (sch b 64)) 423) = W2 at *
  generalize w1.heap.size = g1 at *
  obtain ⟨z0, z1, z2, z3, z4, z5, z6, z7⟩ := cells8 y0.out
  go_quiet (fail)
  clear z0 z1 z2 z3 z4 z5 z6 z7
  go_wp2
  go_loopw [6, 7, 8, 9, 10, 11, 12, 13, 37] (fun va vb vc vd ve vf vg vh vt wr => ∃ t n : Nat, t ≤ 64 ∧ vt = .int .i64 t ∧ va = .int .u32 ((rnds b s t).a.toNat : Int) ∧ vb = .int .u32 ((rnds b s t).b.toNat : Int) ∧ vc = .int .u32 ((rnds b s t).c.toNat : Int) ∧ vd = .int .u32 ((rnds b s t).d.toNat : Int) ∧ ve = .int .u32 ((rnds b s t).e.toNat : Int) ∧ vf = .int .u32 ((rnds b s t).f.toNat : Int) ∧ vg = .int .u32 ((rnds b s t).g.toNat : Int) ∧ vh = .int .u32 ((rnds b s t).h.toNat : Int) ∧ Hid (wr = W2.drewN n)) (fun _ _ _ _ _ _ _ _ vt _ => (64 - intOf vt).toNat)
  case atStart => exact ⟨0, nq, by omega, rfl, rfl, rfl, rfl, rfl, rfl, rfl, rfl, rfl, rfl⟩
  case round =>
    obtain ⟨t, n, ht, rfl, rfl, rfl, rfl, rfl, rfl, rfl, rfl, rfl, HW⟩ := hrel
    by_cases hlt : t < 64
    · have k1 : wr.cell? ⟨0, t, none⟩ = some (.int .u32 ((kk t).toNat : Int)) := by rw [HW.out]; exact KK.out t hlt
      have k2 : wr.cell? ⟨g1, t, none⟩ = some (.int .u32 ((ws b t).toNat : Int)) := by
        rw [HW.out]
        have := cell_of_row W2 g1 t _ _ _ y3.out
        rw [uc_at _ _ (by rw [sch_len]; exact hlt), sch_at b 64 t hlt] at this
        exact this
      have t0 : (0 : Int) ≤ t := by omega
      have t1 : (t : Int) < 64 := by omega
      have HE := hide (show rnds b s (t + 1) = rnd (kk t) (ws b t) (rnds b s t) from rfl)
      generalize rnds b s t = r at *
      generalize kk t = kt at *
      generalize ws b t = wt at *
      have H1 := hide fun W => turned_any r.e 6 11 25 6 11 25 rfl rfl rfl (by omega) (by omega) (by omega) (by omega) (by omega) (by omega) W
      have H2 := hide fun W => turned_any r.a 2 13 22 2 13 22 rfl rfl rfl (by omega) (by omega) (by omega) (by omega) (by omega) (by omega) W
      go_wp2
      go_quiet ((go_at_call 299; exact Calls.quiet_of_same (H1.out _)))
      go_wp2_with (go_at_call 299; refine (H2.out _).mono ?_; rintro e w3 ⟨rfl, rfl⟩)
      refine ⟨⟨t + 1, n + nq, by omega, by go_num, ?_, ?_, ?_, ?_, ?_, ?_, ?_, ?_, hide (by rw [HW.out, World.drewN_drewN])⟩, by simp [intOf]; omega⟩
      all_goals rw [HE.out]
      · rw [notX, andU, andU, xorU, andU, andU, andU, xorU, xorU, add5, addU, addU]; rfl
      · rfl
      · rfl
      · rfl
      · rw [notX, andU, andU, xorU, add5, addU]; rfl
      · rfl
      · rfl
      · rfl
    · have hte : t = 64 := by omega
      subst hte
      rw [show ((64 : Nat) : Int) = 64 from rfl]
      have HT := hide (show step s b = addS s (rnds b s 64) from rfl)
      generalize rnds b s 64 = r at *
      have Y0 : Hid (wr.rowIs w.heap.size 360 8 (fun j => .int .u32 ((s.at j).toNat : Int))) := by
        refine row_of (c := uc s.list) rfl ?_ (fun i hi => st_at s i hi)
        rw [HW.out]; exact y0.out
      have Y2 : Hid (wr.heap[w.heap.size + 1 + 1]? = some (.cells (uc zw8) 360 (0, 0))) := by
        rw [HW.out]; exact y2.out
      have B0 : Hid (Below w.heap.size w wr) := by
        rw [HW.out]; exact below_drewN BB.out n
      clear HW y0 y2 y3 BB KK
      go_wp2_with (first | refine wpList_allocA A31 rfl rfl ?_ | refine wpList_store_newA A31 rfl _ _ rfl _ rfl (uc r.list) rfl (uc_one _) rfl rfl ?_)
      have R2 : Hid ((wr.alloc (.cells (uc r.list) 360)).rowIs wr.heap.size 360 8 (adF s r 0)) := row_of (c := uc r.list) rfl (heap_alloc_last _ _) (fun i hi => by rw [st_at r i hi]; simp [adF])
      have R0 := hide (Y0.out.alloc (.cells (uc r.list) 360))
      have R1 := hide ((Below.heap_alloc _ (.cells (uc r.list) 360) _ (lt_heap Y2.out)).trans Y2.out)
      have BB := hide (B0.out.alloc B0.out.size (.cells (uc r.list) 360))
      have n1 := Y0.out.lt
      have n2 := lt_heap Y2.out
      clear Y0 Y2 B0
      generalize wr.alloc (.cells (uc r.list) 360) = W3 at *
      generalize wr.heap.size = g2 at *
      go_loopw [97] (fun c wx => ∃ i : Nat, i ≤ 8 ∧ c = .int .i64 i ∧ Hid (wx.rowIs w.heap.size 360 8 (fun j => .int .u32 ((s.at j).toNat : Int))) ∧ Hid (wx.heap[w.heap.size + 1 + 1]? = some (.cells (uc zw8) 360 (0, 0))) ∧ Hid (wx.rowIs g2 360 8 (adF s r i)) ∧ Hid (Below w.heap.size w wx)) (fun c _ => (8 - intOf c).toNat)
      case atStart => exact ⟨0, by omega, rfl, R0, R1, R2, BB⟩
      case round =>
        clear R0 R1 R2 BB
        obtain ⟨i, hi, rfl, r0, r1, r2, bb⟩ := hrel
        by_cases hi8 : i < 8
        · have c0 := r0.out.cell hi8
          have c2 := r2.out.cell hi8
          have f2 := r2.out.frozen i
          have t0 : (0 : Int) ≤ i := by omega
          have t1 : (i : Int) < 8 := by omega
          rw [adF_at] at c2
          go_wp2
          go_region
          all_goals go_wp2
          all_goals
            refine ⟨⟨i + 1, by omega, by go_num, hide ((r0.out.setOther (by simp; omega) _).drew), hide ((blk_setCell_other _ _ _ _ (by simp; omega)).trans r1.out), hide (((r2.out.set _ _).congr (fun j hj => ?_)).drew), hide ((bb.out.setCell (by simp; omega) _).drew)⟩, by simp [intOf]; omega⟩
            rw [addU]
            exact adF_step s r i j
        · have hie : i = 8 := by omega
          subst hie
          have H2 : wr.heap[g2]? = some (.cells (uc (addS s r).list) 360 (0, 0)) := of_row rfl r2.out (fun i hi => by rw [st_at _ i hi, adF_end s r i hi])
          go_wp2_with (first | refine wpList_loadA A31 rfl _ rfl _ rfl (uc (addS s r).list) rfl 360 H2 ?_ | refine wpList_storeA A31 rfl _ _ rfl _ (uc (addS s r).list) rfl (uc_one _) rfl rfl (uc zw8) (by rw [uc_size, zw8_len]) 360 r1.out ?_)
          exact bodyPost_ret (v := .agg (uc (addS s r).list)) (resA A31 Tryz.results229 _ _ (w.heap.size + 1 + 1) 360 _ rfl rfl (setRow_heap _ _ _ _ _ _ r1.out)) rfl ⟨by rw [HT.out], below_setRow bb.out (by omega) _⟩
end
end Go.Proofs.YtppooipamibhoaaGreatDoor
namespace Go.Proofs.YtppooipamibhoaaGreatDoor
open Go.RowKit
open Go.Deep
/-- The byte j of a word, the highest first. -/
def wb (x : UInt32) (j : Nat) : UInt8 := UInt8.ofNat (x.toNat / 2 ^ (24 - 8 * j))
/-- The byte k of a state. -/
def sb (s : St) (k : Nat) : UInt8 := wb (s.at (k / 4)) (k % 4)
/-- A state's bytes. -/
def St.bytes (s : St) : List UInt8 := (List.range 32).map (sb s)
theorem bytes_len (s : St) : s.bytes.length = 32 := by simp [St.bytes]
theorem bytes_at (s : St) (k : Nat) (h : k < 32) : (hc s.bytes)[k]? = some (.int .u8 ((sb s k).toNat : Int)) := by
  rw [hc_at _ _ (by rw [bytes_len]; exact h)]
  simp [by8, St.bytes, h]
/-- The bytes while they are laid: n of them stand. -/
def laF (s : St) (n j : Nat) : Value := .int .u8 (if j < n then ((sb s j).toNat : Int) else 0)
theorem laF_step (s : St) (n j : Nat) : (if j = n then Value.int .u8 ((sb s n).toNat : Int) else laF s n j) = laF s (n + 1) j := by
  unfold laF
  by_cases e : j = n
  · subst e
    rw [if_pos rfl, if_pos (by omega)]
  · rw [if_neg e]
    by_cases e2 : j < n
    · rw [if_pos e2, if_pos (by omega)]
    · rw [if_neg e2, if_neg (by omega)]
theorem sb_eq (s : St) (i j : Nat) (hj : j < 4) : ((s.at i).toNat : Int) / 2 ^ (24 - 8 * j) % 256 = ((sb s (4 * i + j)).toNat : Int) := by
  have e1 : (4 * i + j) / 4 = i := by omega
  have e2 : (4 * i + j) % 4 = j := by omega
  rw [sb, e1, e2, wb, UInt8.toNat_ofNat']
  simp
section
set_option maxRecDepth 10000
set_option maxHeartbeats 1000000
theorem first_any (w : World) : Calls Tryz.prog 228 #[] w fun e w' => e = .returned (.agg (uc first.list)) ∧ Below w.heap.size w w' := by
  go_enter Tryz.func228, Tryz.ntmps228
  go_wp2_with (first | refine wpList_allocA A31 rfl rfl ?_ | refine wpList_store_newA A31 rfl _ _ rfl _ rfl (uc first.list) rfl (uc_one _) rfl rfl ?_)
  exact bodyPost_ret (v := .agg (uc first.list)) (resA A31 Tryz.results228 _ _ w.heap.size 360 _ rfl rfl (heap_alloc_last _ _)) rfl ⟨rfl, (Below.refl _ _).alloc (Nat.le_refl _) _⟩
theorem rfirst_any (w : World) : Calls Tryz.prog 283 #[] w fun e w' => e = .returned (.agg (uc first.list)) ∧ Below w.heap.size w w' := by
  go_enter Tryz.func283, Tryz.ntmps283
  go_wp2_with (first | refine wpList_allocA A30 rfl rfl ?_ | refine wpList_store_newA A30 rfl _ _ rfl _ rfl (uc first.list) rfl (uc_one _) rfl rfl ?_)
  exact bodyPost_ret (v := .agg (uc first.list)) (resA A30 Tryz.results283 _ _ w.heap.size 359 _ rfl rfl (heap_alloc_last _ _)) rfl ⟨rfl, (Below.refl _ _).alloc (Nat.le_refl _) _⟩
theorem laid_any (s : St) (w : World) : Calls Tryz.prog 301 #[.agg (uc s.list)] w fun e w' => e = .returned (.agg (hc s.bytes)) ∧ Below w.heap.size w w' := by
  go_enter Tryz.func301, Tryz.ntmps301
  go_wp2_with (first | refine wpList_boxA rfl _ rfl (uc s.list) rfl ?_ | refine wpList_allocA A25 rfl rfl ?_)
  obtain ⟨b0, b1, b2⟩ := blk3 w (.cells (uc s.list) 360) (.cells (hc zeros) 46) (.cells (hc zeros) 46)
  have R0 := hide (row_of (c := uc s.list) rfl b0 (fun i hi => st_at s i hi))
  have R1 := hide b1
  have R2 : Hid ((((w.alloc (.cells (uc s.list) 360)).alloc (.cells (hc zeros) 46)).alloc (.cells (hc zeros) 46)).rowIs (w.heap.size + 1 + 1) 46 32 (laF s (4 * 0))) := row_of (by rw [hc_size, zeros_len]) b2 (fun i hi => by
    rw [hc_at _ _ (by rw [zeros_len]; omega), by8, zeros, List.getD_eq_getElem?_getD, List.getElem?_replicate, if_pos hi]
    simp [laF])
  have BB := hide (below3 w (.cells (uc s.list) 360) (.cells (hc zeros) 46) (.cells (hc zeros) 46))
  clear b0 b1 b2
  go_loopw [6] (fun c wr => ∃ i : Nat, i ≤ 8 ∧ c = .int .i64 i ∧ Hid (wr.rowIs w.heap.size 360 8 (fun j => .int .u32 ((s.at j).toNat : Int))) ∧ Hid (wr.heap[w.heap.size + 1]? = some (.cells (hc zeros) 46 (0, 0))) ∧ Hid (wr.rowIs (w.heap.size + 1 + 1) 46 32 (laF s (4 * i))) ∧ Hid (Below w.heap.size w wr)) (fun c _ => (8 - intOf c).toNat)
  case atStart => exact ⟨0, by omega, rfl, R0, R1, R2, BB⟩
  case round =>
    clear R0 R1 R2 BB
    obtain ⟨i, hi, rfl, r0, r1, r2, bb⟩ := hrel
    by_cases hlt : i < 8
    · go_wp2
      go_loopw [9] (fun c wr => ∃ j : Nat, j ≤ 4 ∧ c = .int .i64 j ∧ Hid (wr.rowIs w.heap.size 360 8 (fun j => .int .u32 ((s.at j).toNat : Int))) ∧ Hid (wr.heap[w.heap.size + 1]? = some (.cells (hc zeros) 46 (0, 0))) ∧ Hid (wr.rowIs (w.heap.size + 1 + 1) 46 32 (laF s (4 * i + j))) ∧ Hid (Below w.heap.size w wr)) (fun c _ => (4 - intOf c).toNat)
      case atStart => exact ⟨0, by omega, rfl, r0, r1, r2, bb⟩
      case round =>
        clear r0 r1 r2 bb
        obtain ⟨j, hj, rfl, r0, r1, r2, bb⟩ := hrel
        by_cases hj4 : j < 4
        · have c0 := r0.out.cell hlt
          have c2 := r2.out.cell (show 4 * i + j < 32 by omega)
          have f2 := r2.out.frozen (4 * i + j)
          have e1 : (4 * (i : Int) + j).toNat = 4 * i + j := by omega
          have t0 : (0 : Int) ≤ i := by omega
          have t1 : (i : Int) < 8 := by omega
          have t2 : (0 : Int) ≤ 4 * i + j := by omega
          have t3 : 4 * (i : Int) + j < 32 := by omega
          have t4 : (0 : Int) ≤ 24 - 8 * j := by omega
          have t5 : (24 : Int) - 8 * j ≤ 32 := by omega
          go_wp2
          refine ⟨⟨j + 1, by omega, by go_num, hide (r0.out.setOther (by simp; omega) _), hide ((blk_setCell_other _ _ _ _ (by simp)).trans r1.out), hide ((r2.out.set _ _).congr (fun k hk => ?_)), hide (bb.out.setCell (by simp; omega) _)⟩, by simp [intOf]; omega⟩
          rw [sb_eq s i j hj4]
          exact laF_step s (4 * i + j) k
        · have hje : j = 4 := by omega
          subst hje
          go_wp2
          exact ⟨⟨i + 1, by omega, by go_num, r0, r1, r2, bb⟩, by simp [intOf]; omega⟩
    · have hie : i = 8 := by omega
      subst hie
      have H2 : wr.heap[w.heap.size + 1 + 1]? = some (.cells (hc s.bytes) 46 (0, 0)) := of_row (by rw [hc_size, bytes_len]) r2.out (fun i hi => by rw [bytes_at s i hi]; simp [laF, hi])
      go_wp2_with (first | refine wpList_loadA A25 rfl _ rfl _ rfl (hc s.bytes) (by rw [hc_size, bytes_len]) 46 H2 ?_ | refine wpList_storeA A25 rfl _ _ rfl _ (hc s.bytes) (by rw [hc_size, bytes_len]) (hc_one _) rfl rfl (hc zeros) (by rw [hc_size, zeros_len]) 46 r1.out ?_)
      exact bodyPost_ret (v := .agg (hc s.bytes)) (resA A25 Tryz.results301 _ _ (w.heap.size + 1) 46 _ (by rw [hc_size, bytes_len]) rfl (setRow_heap _ _ _ _ _ _ r1.out)) rfl ⟨rfl, below_setRow bb.out (by omega) _⟩
theorem rbytes_any (s : St) (w : World) : Calls Tryz.prog 285 #[.agg (uc s.list)] w fun e w' => e = .returned (.agg (hc s.bytes)) ∧ Below w.heap.size w w' := by
  go_enter Tryz.func285, Tryz.ntmps285
  go_wp2_with (first | refine wpList_boxA rfl _ rfl (uc s.list) rfl ?_ | refine wpList_allocA A24 rfl rfl ?_ | refine wpList_buildA A24 rfl rfl ?_ | refine wpList_store_newA A24 rfl _ _ rfl _ rfl (hc zeros) (by rw [hc_size, zeros_len]) (hc_one _) rfl rfl ?_)
  obtain ⟨b0, b1, b2⟩ := blk3 w (.cells (uc s.list) 359) (.cells (hc zeros) 45) (.cells (hc zeros) 45)
  have R0 := hide (row_of (c := uc s.list) rfl b0 (fun i hi => st_at s i hi))
  have R1 := hide b1
  have R2 : Hid ((((w.alloc (.cells (uc s.list) 359)).alloc (.cells (hc zeros) 45)).alloc (.cells (hc zeros) 45)).rowIs (w.heap.size + 1 + 1) 45 32 (laF s (4 * 0))) := row_of (by rw [hc_size, zeros_len]) b2 (fun i hi => by
    rw [hc_at _ _ (by rw [zeros_len]; omega), by8, zeros, List.getD_eq_getElem?_getD, List.getElem?_replicate, if_pos hi]
    simp [laF])
  have BB := hide (below3 w (.cells (uc s.list) 359) (.cells (hc zeros) 45) (.cells (hc zeros) 45))
  clear b0 b1 b2
  go_loopw [4] (fun c wr => ∃ i : Nat, i ≤ 8 ∧ c = .int .i64 i ∧ Hid (wr.rowIs w.heap.size 359 8 (fun j => .int .u32 ((s.at j).toNat : Int))) ∧ Hid (wr.heap[w.heap.size + 1]? = some (.cells (hc zeros) 45 (0, 0))) ∧ Hid (wr.rowIs (w.heap.size + 1 + 1) 45 32 (laF s (4 * i))) ∧ Hid (Below w.heap.size w wr)) (fun c _ => (8 - intOf c).toNat)
  case atStart => exact ⟨0, by omega, rfl, R0, R1, R2, BB⟩
  case round =>
    clear R0 R1 R2 BB
    obtain ⟨i, hi, rfl, r0, r1, r2, bb⟩ := hrel
    by_cases hlt : i < 8
    · go_wp2
      go_loopw [5] (fun c wr => ∃ j : Nat, j ≤ 4 ∧ c = .int .i64 j ∧ Hid (wr.rowIs w.heap.size 359 8 (fun j => .int .u32 ((s.at j).toNat : Int))) ∧ Hid (wr.heap[w.heap.size + 1]? = some (.cells (hc zeros) 45 (0, 0))) ∧ Hid (wr.rowIs (w.heap.size + 1 + 1) 45 32 (laF s (4 * i + j))) ∧ Hid (Below w.heap.size w wr)) (fun c _ => (4 - intOf c).toNat)
      case atStart => exact ⟨0, by omega, rfl, r0, r1, r2, bb⟩
      case round =>
        clear r0 r1 r2 bb
        obtain ⟨j, hj, rfl, r0, r1, r2, bb⟩ := hrel
        by_cases hj4 : j < 4
        · have c0 := r0.out.cell hlt
          have c2 := r2.out.cell (show 4 * i + j < 32 by omega)
          have f2 := r2.out.frozen (4 * i + j)
          have e1 : (4 * (i : Int) + j).toNat = 4 * i + j := by omega
          have t0 : (0 : Int) ≤ i := by omega
          have t1 : (i : Int) < 8 := by omega
          have t2 : (0 : Int) ≤ 4 * i + j := by omega
          have t3 : 4 * (i : Int) + j < 32 := by omega
          have t4 : (0 : Int) ≤ 24 - 8 * j := by omega
          have t5 : (24 : Int) - 8 * j ≤ 32 := by omega
          go_wp2
          refine ⟨⟨j + 1, by omega, by go_num, hide (r0.out.setOther (by simp; omega) _), hide ((blk_setCell_other _ _ _ _ (by simp)).trans r1.out), hide ((r2.out.set _ _).congr (fun k hk => ?_)), hide (bb.out.setCell (by simp; omega) _)⟩, by simp [intOf]; omega⟩
          rw [sb_eq s i j hj4]
          exact laF_step s (4 * i + j) k
        · have hje : j = 4 := by omega
          subst hje
          go_wp2
          exact ⟨⟨i + 1, by omega, by go_num, r0, r1, r2, bb⟩, by simp [intOf]; omega⟩
    · have hie : i = 8 := by omega
      subst hie
      have H2 : wr.heap[w.heap.size + 1 + 1]? = some (.cells (hc s.bytes) 45 (0, 0)) := of_row (by rw [hc_size, bytes_len]) r2.out (fun i hi => by rw [bytes_at s i hi]; simp [laF, hi])
      go_wp2_with (first | refine wpList_loadA A24 rfl _ rfl _ rfl (hc s.bytes) (by rw [hc_size, bytes_len]) 45 H2 ?_ | refine wpList_storeA A24 rfl _ _ rfl _ (hc s.bytes) (by rw [hc_size, bytes_len]) (hc_one _) rfl rfl (hc zeros) (by rw [hc_size, zeros_len]) 45 r1.out ?_)
      exact bodyPost_ret (v := .agg (hc s.bytes)) (resA A24 Tryz.results285 _ _ (w.heap.size + 1) 45 _ (by rw [hc_size, bytes_len]) rfl (setRow_heap _ _ _ _ _ _ r1.out)) rfl ⟨rfl, below_setRow bb.out (by omega) _⟩
end
end Go.Proofs.YtppooipamibhoaaGreatDoor
