/- The document's step: the contracts of constants and of its Step. The document's step: the contract of its Step. -/
import Derived.Test.YtppooipamibhoaaGreatDoorX02
namespace Go.Proofs.YtppooipamibhoaaGreatDoor
open Go.RowKit
open Go.Deep
theorem cell_set_far (w : World) (b b' i j : Nat) (v : Value) (h : b ≠ b') : (w.setCell ⟨b, i, none⟩ v).cell? ⟨b', j, none⟩ = w.cell? ⟨b', j, none⟩ :=
  World.cell?_setCell_other _ _ _ _ (by intro e; cases e; exact h rfl)
theorem cell_set_far_drew (w : World) (b b' i j : Nat) (v : Value) (h : b ≠ b') : (w.setCell ⟨b, i, none⟩ v).drew.cell? ⟨b', j, none⟩ = w.cell? ⟨b', j, none⟩ := cell_set_far w b b' i j v h
theorem shr10 (x : UInt32) : (x.toNat : Int) / 1024 = ((x >>> UInt32.ofNat 10).toNat : Int) := shrU x 10 (by omega)
theorem shr3 (x : UInt32) : (x.toNat : Int) / 8 = ((x >>> UInt32.ofNat 3).toNat : Int) := shrU x 3 (by omega)
theorem join32 (i : Nat) (x y : Int) (h0 : 0 ≤ x) (hm : x % 2 ^ i = 0) (h1 : x < 4294967296) (g0 : 0 ≤ y) (g1 : y < 2 ^ i) (g2 : y < 4294967296) : bits .or .u32 x y = x + y :=
  bits_join .u32 32 (by decide) (fun n h0 h1 => by rw [wrapU]; omega) i x y h0 hm h1 g0 g1 g2
theorem word_or (b : List UInt8) (t : Nat) : bits .or .u32 (bits .or .u32 (bits .or .u32 ((by8 b (4 * t) : Int) % 4294967296 * 16777216 % 4294967296) ((by8 b (4 * t + 1) : Int) % 4294967296 * 65536 % 4294967296)) ((by8 b (4 * t + 2) : Int) % 4294967296 * 256 % 4294967296)) ((by8 b (4 * t + 3) : Int) % 4294967296) = ((word b t).toNat : Int) := by
  have h0 := by8_lt b (4 * t)
  have h1 := by8_lt b (4 * t + 1)
  have h2 := by8_lt b (4 * t + 2)
  have h3 := by8_lt b (4 * t + 3)
  have e0 : (by8 b (4 * t) : Int) % 4294967296 * 16777216 % 4294967296 = (by8 b (4 * t) : Int) * 16777216 := by omega
  have e1 : (by8 b (4 * t + 1) : Int) % 4294967296 * 65536 % 4294967296 = (by8 b (4 * t + 1) : Int) * 65536 := by omega
  have e2 : (by8 b (4 * t + 2) : Int) % 4294967296 * 256 % 4294967296 = (by8 b (4 * t + 2) : Int) * 256 := by omega
  have e3 : (by8 b (4 * t + 3) : Int) % 4294967296 = (by8 b (4 * t + 3) : Int) := by omega
  rw [e0, e1, e2, e3, join32 24 ((by8 b (4 * t) : Int) * 16777216) ((by8 b (4 * t + 1) : Int) * 65536) (by omega) (by omega) (by omega) (by omega) (by omega) (by omega), join32 16 ((by8 b (4 * t) : Int) * 16777216 + (by8 b (4 * t + 1) : Int) * 65536) ((by8 b (4 * t + 2) : Int) * 256) (by omega) (by omega) (by omega) (by omega) (by omega) (by omega), join32 8 ((by8 b (4 * t) : Int) * 16777216 + (by8 b (4 * t + 1) : Int) * 65536 + (by8 b (4 * t + 2) : Int) * 256) (by8 b (4 * t + 3) : Int) (by omega) (by omega) (by omega) (by omega) (by omega) (by omega)]
  unfold word
  rw [UInt32.toNat_ofNat']
  omega
theorem sq_step (b : List UInt8) (k j : Nat) : (if j = k then Value.int .u32 ((ws b k).toNat : Int) else sqF b k j) = sqF b (k + 1) j := by
  unfold sqF
  by_cases e : j = k
  · subst e
    rw [if_pos rfl, if_pos (by omega)]
  · rw [if_neg e]
    by_cases e2 : j < k
    · rw [if_pos e2, if_pos (by omega)]
    · rw [if_neg e2, if_neg (by omega)]
theorem one_eq (r : St) (kt wt : UInt32) : (((r.h.toNat : Int) + bits BinOp.xor IntKind.u32 (bits BinOp.xor IntKind.u32 ((rotr r.e 6).toNat : Int) ((rotr r.e 11).toNat : Int)) ((rotr r.e 25).toNat : Int) + bits BinOp.xor IntKind.u32 (bits BinOp.and IntKind.u32 (r.e.toNat : Int) (r.f.toNat : Int)) (bits BinOp.and IntKind.u32 ((4294967295 - (r.e.toNat : Int)) % 4294967296) (r.g.toNat : Int)) + (kt.toNat : Int)) % 4294967296 + (wt.toNat : Int)) % 4294967296 = ((tone kt wt r).toNat : Int) := by
  rw [xorU, xorU, subU, andU, andU, xorU]
  have h := add5 r.h (rotr r.e 6 ^^^ rotr r.e 11 ^^^ rotr r.e 25) ((r.e &&& r.f) ^^^ (~~~r.e &&& r.g)) kt wt
  rw [Int.emod_add_emod, h]
  rfl
theorem two_eq (r : St) : (bits BinOp.xor IntKind.u32 (bits BinOp.xor IntKind.u32 ((rotr r.a 2).toNat : Int) ((rotr r.a 13).toNat : Int)) ((rotr r.a 22).toNat : Int) + bits BinOp.xor IntKind.u32 (bits BinOp.xor IntKind.u32 (bits BinOp.and IntKind.u32 (r.a.toNat : Int) (r.b.toNat : Int)) (bits BinOp.and IntKind.u32 (r.a.toNat : Int) (r.c.toNat : Int))) (bits BinOp.and IntKind.u32 (r.b.toNat : Int) (r.c.toNat : Int))) % 4294967296 = ((ttwo r).toNat : Int) := by
  rw [xorU, xorU, andU, andU, andU, xorU, xorU, addU]
  rfl
theorem addS_comm (x y : St) : addS x y = addS y x := by
  simp [addS, UInt32.add_comm]
theorem rs_mid {w wr : World} {g1 : Nat} {C0 C1 C2 C3 A : Obj} (r0 : wr.heap[w.heap.size]? = some C0) (r2 : wr.heap[w.heap.size + 1 + 1]? = some C1) (r3 : wr.heap[g1]? = some C2) (r4 : wr.heap[g1 + 1]? = some C3) (bb : Below w.heap.size w wr) :
    Hid ((wr.alloc A).heap[w.heap.size]? = some C0) ∧ Hid ((wr.alloc A).heap[w.heap.size + 1 + 1]? = some C1) ∧ Hid ((wr.alloc A).heap[g1]? = some C2) ∧ Hid ((wr.alloc A).heap[g1 + 1]? = some C3) ∧ Hid ((wr.alloc A).heap[wr.heap.size]? = some A) ∧ Hid (Below w.heap.size w (wr.alloc A)) ∧ Hid (g1 + 1 < wr.heap.size) :=
  ⟨(Below.heap_alloc _ A _ (lt_heap r0)).trans r0, (Below.heap_alloc _ A _ (lt_heap r2)).trans r2, (Below.heap_alloc _ A _ (lt_heap r3)).trans r3, (Below.heap_alloc _ A _ (lt_heap r4)).trans r4, heap_alloc_last _ _, bb.alloc bb.size _, lt_heap r4⟩
theorem mid2 {w w1 : World} {A B C D E : Obj} (b1 : Below (((w.alloc A).alloc B).alloc C).heap.size (((w.alloc A).alloc B).alloc C) w1) :
    Hid (((w1.alloc D).alloc E).heap[w.heap.size]? = some A) ∧ Hid (((w1.alloc D).alloc E).heap[w.heap.size + 1]? = some B) ∧ Hid (((w1.alloc D).alloc E).heap[w.heap.size + 1 + 1]? = some C) ∧ Hid (((w1.alloc D).alloc E).heap[w1.heap.size]? = some D) ∧ Hid (((w1.alloc D).alloc E).heap[w1.heap.size + 1]? = some E) ∧ Hid (Below w.heap.size w ((w1.alloc D).alloc E)) ∧ Hid (w.heap.size + 1 + 1 < w1.heap.size) := by
  obtain ⟨x0, x1, x2⟩ := blk3 w A B C
  have hN : (((w.alloc A).alloc B).alloc C).heap.size = w.heap.size + 1 + 1 + 1 := by simp
  have hs := b1.size
  have B1 : Below w.heap.size w w1 := (below3 w A B C).trans (b1.mono (by omega))
  have s1 : (w1.alloc D).heap.size = w1.heap.size + 1 := by simp
  have e2 := heap_alloc_last (w1.alloc D) E
  rw [s1] at e2
  have old : ∀ k, k < w.heap.size + 1 + 1 + 1 → ((w1.alloc D).alloc E).heap[k]? = (((w.alloc A).alloc B).alloc C).heap[k]? := fun k hk =>
    (Below.heap_alloc _ _ _ (by omega)).trans ((Below.heap_alloc _ _ _ (by omega)).trans (b1.block _ (by omega)))
  refine ⟨(old _ (by omega)).trans x0, (old _ (by omega)).trans x1, (old _ (by omega)).trans x2, (Below.heap_alloc _ _ _ (by omega)).trans (heap_alloc_last _ _), e2, (B1.alloc B1.size _).alloc (by have := B1.size; simp; omega) _, ?_⟩
  show w.heap.size + 1 + 1 < w1.heap.size
  omega
section
set_option maxRecDepth 10000
set_option maxHeartbeats 1000000
theorem constants_any (w : World) : Calls Tryz.prog 337 #[] w fun e w' => e = .returned (.agg (uc kL)) ∧ Below w.heap.size w w' := by
  go_enter Tryz.func337, Tryz.ntmps337
  go_wp2_with (first | refine wpList_allocA A66 rfl rfl ?_ | refine wpList_store_newA A66 rfl _ _ rfl _ rfl (uc kL) (by rw [uc_size, kL_len]) (uc_one _) rfl (by kernel_rfl) ?_)
  exact bodyPost_ret (v := .agg (uc kL)) (resA A66 Tryz.results337 _ _ w.heap.size 423 _ (by rw [uc_size, kL_len]) rfl (heap_alloc_last _ _)) rfl ⟨rfl, (Below.refl _ _).alloc (Nat.le_refl _) _⟩
end
end Go.Proofs.YtppooipamibhoaaGreatDoor
namespace Go.Proofs.YtppooipamibhoaaGreatDoor
open Go.RowKit
open Go.Deep
section
set_option maxRecDepth 10000
set_option maxHeartbeats 1000000
theorem rstep_any (s : St) (b : List UInt8) (hl : b.length = 64) (w : World) : Calls Tryz.prog 284 #[.agg (uc s.list), .agg (hc b)] w fun e w' => e = .returned (.agg (uc (step s b).list)) ∧ Below w.heap.size w w' := by
  have HC := hide fun W => constants_any W
  go_enter Tryz.func284, Tryz.ntmps284
  go_upto_region 3 with (first | refine wpList_boxA rfl _ rfl (uc s.list) rfl ?_ | refine wpList_boxA rfl _ rfl (hc b) rfl ?_ | refine wpList_allocA A30 rfl rfl ?_ | (go_at_call 337; refine (HC.out _).mono ?_; rintro e w1 ⟨rfl, b1⟩) | refine wpList_allocA A66 rfl rfl ?_ | refine wpList_buildA A66 rfl rfl ?_ | refine wpList_store_newA A66 rfl _ _ rfl _ rfl (uc kL) (by rw [uc_size, kL_len]) (uc_one _) rfl rfl ?_ | refine wpList_store_newA A66 rfl _ _ rfl _ rfl (uc zw64) (by rw [uc_size, zw64_len]) (uc_one _) rfl rfl ?_)
  go_wp2
  obtain ⟨y0, y1, y2, y3, y4, BB, hg0⟩ := mid2 (D := .cells (uc kL) 423) (E := .cells (uc zw64) 423) b1
  have hg := hg0.out
  clear b1 HC hg0
  generalize (w1.alloc (.cells (uc kL) 423)).alloc (.cells (uc zw64) 423) = W2 at *
  generalize w1.heap.size = g1 at *
  have R1 : Hid (W2.rowIs (w.heap.size + 1) 362 64 (fun i => .int .u8 (by8 b i : Int))) := row_of (by rw [hc_size, hl]) y1.out (fun i hi => hc_at b i (by omega))
  have R4 : Hid (W2.rowIs (g1 + 1) 423 64 (sqF b 0)) := row_of (by rw [uc_size, zw64_len]) y4.out (fun i hi => by
    rw [uc_at _ _ (by rw [zw64_len]; omega), zw64, List.getD_eq_getElem?_getD, List.getElem?_replicate, if_pos hi]
    simp [sqF])
  clear y1 y4
  go_loopw [7, 8, 9] (fun c _ _ wr => ∃ i : Nat, i ≤ 64 ∧ c = .int .i64 i ∧ Hid (wr.heap[w.heap.size]? = some (.cells (uc s.list) 359 (0, 0))) ∧ Hid (wr.rowIs (w.heap.size + 1) 362 64 (fun i => .int .u8 (by8 b i : Int))) ∧ Hid (wr.heap[w.heap.size + 1 + 1]? = some (.cells (uc zw8) 359 (0, 0))) ∧ Hid (wr.heap[g1]? = some (.cells (uc kL) 423 (0, 0))) ∧ Hid (wr.rowIs (g1 + 1) 423 64 (sqF b i)) ∧ Hid (Below w.heap.size w wr)) (fun c _ _ _ => (64 - intOf c).toNat)
  case atStart => exact ⟨0, by omega, rfl, y0, R1, y2, y3, R4, BB⟩
  case round =>
    clear y0 R1 y2 y3 R4 BB
    obtain ⟨i, hi, rfl, r0, r1, r2, r3, r4, bb⟩ := hrel
    by_cases hlt : i < 64
    · by_cases h16 : i < 16
      · have c0 := r1.out.cell (show 4 * i < 64 by omega)
        have c1 := r1.out.cell (show 4 * i + 1 < 64 by omega)
        have c2 := r1.out.cell (show 4 * i + 2 < 64 by omega)
        have c3 := r1.out.cell (show 4 * i + 3 < 64 by omega)
        have f4 := r4.out.frozen i
        have c4 := r4.out.cell hlt
        have e0 : (4 * (i : Int)).toNat = 4 * i := by omega
        have e1 : (4 * (i : Int) + 1).toNat = 4 * i + 1 := by omega
        have e2 : (4 * (i : Int) + 2).toNat = 4 * i + 2 := by omega
        have e3 : (4 * (i : Int) + 3).toNat = 4 * i + 3 := by omega
        have q0 : IntKind.i64.wrap (4 * (i : Int)) = 4 * i := wrapI _ (by omega) (by omega)
        have q1 : IntKind.i64.wrap (4 * (i : Int) + 1) = 4 * i + 1 := wrapI _ (by omega) (by omega)
        have q2 : IntKind.i64.wrap (4 * (i : Int) + 2) = 4 * i + 2 := wrapI _ (by omega) (by omega)
        have q3 : IntKind.i64.wrap (4 * (i : Int) + 3) = 4 * i + 3 := wrapI _ (by omega) (by omega)
        have a0 : (0 : Int) ≤ i := by omega
        have a1 : (i : Int) < 64 := by omega
        have a2 : (0 : Int) ≤ 4 * i := by omega
        have a3 : 4 * (i : Int) < 64 := by omega
        have a4 : (0 : Int) ≤ 4 * i + 1 := by omega
        have a5 : 4 * (i : Int) + 1 < 64 := by omega
        have a6 : (0 : Int) ≤ 4 * i + 2 := by omega
        have a7 : 4 * (i : Int) + 2 < 64 := by omega
        have a8 : (0 : Int) ≤ 4 * i + 3 := by omega
        have a9 : 4 * (i : Int) + 3 < 64 := by omega
        have n1 : ¬ g1 + 1 = w.heap.size + 1 := by omega
        go_wp2
        go_region_held3 (fun w' => w'.cell? ⟨w.heap.size + 1, 4 * i, none⟩ = some (.int .u8 (by8 b (4 * i) : Int)) ∧ w'.cell? ⟨w.heap.size + 1, 4 * i + 1, none⟩ = some (.int .u8 (by8 b (4 * i + 1) : Int)) ∧ w'.cell? ⟨w.heap.size + 1, 4 * i + 2, none⟩ = some (.int .u8 (by8 b (4 * i + 2) : Int)) ∧ w'.cell? ⟨w.heap.size + 1, 4 * i + 3, none⟩ = some (.int .u8 (by8 b (4 * i + 3) : Int))) (first | (refine ⟨?_, ?_, ?_, ?_⟩ <;> (rw [cell_set_far_drew _ _ _ _ _ _ (by omega)]; assumption)) | go_keep) (fail)
        all_goals go_wp2
        all_goals
          refine ⟨⟨i + 1, by omega, by go_num, hide ((blk_setCell_other _ _ _ _ (by simp; omega)).trans r0.out), hide ((r1.out.setOther (by simp; omega) _).drew), hide ((blk_setCell_other _ _ _ _ (by simp; omega)).trans r2.out), hide ((blk_setCell_other _ _ _ _ (by simp)).trans r3.out), hide (((r4.out.set _ _).congr (fun j hj => ?_)).drew), hide ((bb.out.setCell (by simp; omega) _).drew)⟩, by simp [intOf]; omega⟩
          rw [word_or, ← ws_low b i h16]
          exact sq_step b i j
      · have c15 := r4.out.cell (show i - 15 < 64 by omega)
        have c2 := r4.out.cell (show i - 2 < 64 by omega)
        have c7 := r4.out.cell (show i - 7 < 64 by omega)
        have c16 := r4.out.cell (show i - 16 < 64 by omega)
        have f4 := r4.out.frozen i
        have ci := r4.out.cell hlt
        rw [sqF_at b _ _ (by omega)] at c15 c2 c7 c16
        have e15 : ((i : Int) - 15).toNat = i - 15 := by omega
        have e2 : ((i : Int) - 2).toNat = i - 2 := by omega
        have e7 : ((i : Int) - 7).toNat = i - 7 := by omega
        have e16 : ((i : Int) - 16).toNat = i - 16 := by omega
        have q15 : IntKind.i64.wrap ((i : Int) - 15) = i - 15 := wrapI _ (by omega) (by omega)
        have q2 : IntKind.i64.wrap ((i : Int) - 2) = i - 2 := wrapI _ (by omega) (by omega)
        have q7 : IntKind.i64.wrap ((i : Int) - 7) = i - 7 := wrapI _ (by omega) (by omega)
        have q16 : IntKind.i64.wrap ((i : Int) - 16) = i - 16 := wrapI _ (by omega) (by omega)
        have a0 : (0 : Int) ≤ i := by omega
        have a1 : (i : Int) < 64 := by omega
        have a2 : (0 : Int) ≤ (i : Int) - 15 := by omega
        have a3 : (i : Int) - 15 < 64 := by omega
        have a4 : (0 : Int) ≤ (i : Int) - 2 := by omega
        have a5 : (i : Int) - 2 < 64 := by omega
        have a6 : (0 : Int) ≤ (i : Int) - 7 := by omega
        have a7 : (i : Int) - 7 < 64 := by omega
        have a8 : (0 : Int) ≤ (i : Int) - 16 := by omega
        have a9 : (i : Int) - 16 < 64 := by omega
        have h16' : ¬ (i : Int) < 16 := by omega
        have l7 : (7 : Int) ≤ i := by omega
        have l15 : (15 : Int) ≤ i := by omega
        have l2 : (2 : Int) ≤ i := by omega
        have l16 : (16 : Int) ≤ i := by omega
        have W := hide (ws_high b i (by omega))
        generalize ws b (i - 15) = x15 at *
        generalize ws b (i - 2) = x2 at *
        generalize ws b (i - 7) = x7 at *
        generalize ws b (i - 16) = x16 at *
        have H17 := hide fun W => turn_any x2 17 17 rfl (by omega) (by omega) W
        have H19 := hide fun W => turn_any x2 19 19 rfl (by omega) (by omega) W
        have H7 := hide fun W => turn_any x15 7 7 rfl (by omega) (by omega) W
        have H18 := hide fun W => turn_any x15 18 18 rfl (by omega) (by omega) W
        have i16 : i - 16 ≠ i := by omega
        have i7 : i - 7 ≠ i := by omega
        go_wp2
        go_quiet (fail)
        go_wp2
        go_region_held3 (fun w' => w'.cell? ⟨g1 + 1, i - 7, none⟩ = some (.int .u32 (x7.toNat : Int)) ∧ w'.cell? ⟨g1 + 1, i - 16, none⟩ = some (.int .u32 (x16.toNat : Int))) (first | (refine ⟨?_, ?_⟩ <;> (rw [cell_set_ne _ _ _ _ _ (by omega)]; assumption)) | go_keep) (first | (go_at_call_of 338 (Value.int .i64 17); refine (H17.out _).mono ?_; rintro e w3 ⟨rfl, n3, rfl⟩) | (go_at_call_of 338 (Value.int .i64 19); refine (H19.out _).mono ?_; rintro e w3 ⟨rfl, n4, rfl⟩) | (go_at_call_of 338 (Value.int .i64 7); refine (H7.out _).mono ?_; rintro e w3 ⟨rfl, n5, rfl⟩) | (go_at_call_of 338 (Value.int .i64 18); refine (H18.out _).mono ?_; rintro e w3 ⟨rfl, n6, rfl⟩))
        all_goals go_wp2
        all_goals
          refine ⟨⟨i + 1, by omega, by go_num, hide ((blk_setCell_other _ _ _ _ (by simp; omega)).trans r0.out), hide (r1.out.of_block (blk_setCell_other _ _ _ _ (by simp; omega))), hide ((blk_setCell_other _ _ _ _ (by simp; omega)).trans r2.out), hide ((blk_setCell_other _ _ _ _ (by simp)).trans r3.out), hide ((r4.out.set _ _).congr (fun j hj => ?_)), hide ((below_drewN bb.out _).setCell (by simp; omega) _)⟩, by simp [intOf]; omega⟩
          rw [shr10, shr3, xorU, xorU, xorU, xorU, addU, addU, addU]
          have := W.out
          unfold shf at this
          rw [← this]
          exact sq_step b i j
    · have hie : i = 64 := by omega
      subst hie
      rw [show ((64 : Nat) : Int) = 64 from rfl]
      have H4 : Hid (wr.heap[g1 + 1]? = some (.cells (uc (sch b 64)) 423 (0, 0))) := of_row (by rw [uc_size, sch_len]) r4.out (fun i hi => by rw [uc_at _ _ (by rw [sch_len]; omega), sch_at b 64 i hi, sqF_at b _ i hi])
      clear r1 r4
      go_wp2_with (first | refine wpList_loadA A30 rfl _ rfl _ rfl (uc s.list) rfl 359 r0.out ?_ | refine wpList_allocA A30 rfl rfl ?_ | refine wpList_store_newA A30 rfl _ _ rfl _ rfl (uc s.list) rfl (uc_one _) rfl rfl ?_)
      obtain ⟨Y0, Y2, Y3, Y4, Y5, BB, g3l⟩ := rs_mid r0.out r2.out r3.out H4.out bb.out (A := .cells (uc s.list) 359)
      clear r0 r2 r3 H4 bb
      generalize wr.alloc (.cells (uc s.list) 359) = W3 at *
      generalize wr.heap.size = g3 at *
      have n1 : w.heap.size + 1 + 1 < g1 := hg
      have n2 := g3l.out
      clear g3l
      go_loopw [11, 12, 13, 14, 15] (fun c _ _ _ _ wx => ∃ t : Nat, t ≤ 64 ∧ c = .int .i64 t ∧ Hid (wx.heap[w.heap.size]? = some (.cells (uc s.list) 359 (0, 0))) ∧ Hid (wx.heap[w.heap.size + 1 + 1]? = some (.cells (uc zw8) 359 (0, 0))) ∧ Hid (wx.heap[g1]? = some (.cells (uc kL) 423 (0, 0))) ∧ Hid (wx.heap[g1 + 1]? = some (.cells (uc (sch b 64)) 423 (0, 0))) ∧ Hid (wx.heap[g3]? = some (.cells (uc (rnds b s t).list) 359 (0, 0))) ∧ Hid (Below w.heap.size w wx)) (fun c _ _ _ _ _ => (64 - intOf c).toNat)
      case atStart => exact ⟨0, by omega, rfl, Y0, Y2, Y3, Y4, Y5, BB⟩
      case round =>
        clear Y0 Y2 Y3 Y4 Y5 BB
        obtain ⟨t, ht, rfl, r0, r2, r3, r4, r5, bb⟩ := hrel
        by_cases htl : t < 64
        · obtain ⟨z0, z1, z2, z3, z4, z5, z6, z7⟩ := cells8 r5.out
          have k1 : wr.cell? ⟨g1, t, none⟩ = some (.int .u32 ((kk t).toNat : Int)) := (cell_of_row wr g1 t _ _ _ r3.out).trans (uc_at _ _ (by rw [kL_len]; exact htl))
          have k2 : wr.cell? ⟨g1 + 1, t, none⟩ = some (.int .u32 ((ws b t).toNat : Int)) := by
            rw [cell_of_row wr (g1 + 1) t _ _ _ r4.out, uc_at _ _ (by rw [sch_len]; exact htl), sch_at b 64 t htl]
          have t0 : (0 : Int) ≤ t := by omega
          have t1 : (t : Int) < 64 := by omega
          have HE := hide (show rnds b s (t + 1) = rnd (kk t) (ws b t) (rnds b s t) from rfl)
          generalize rnds b s t = r at *
          generalize kk t = kt at *
          generalize ws b t = wt at *
          have H6 := hide fun W => turn_any r.e 6 6 rfl (by omega) (by omega) W
          have H11 := hide fun W => turn_any r.e 11 11 rfl (by omega) (by omega) W
          have H25 := hide fun W => turn_any r.e 25 25 rfl (by omega) (by omega) W
          have H2 := hide fun W => turn_any r.a 2 2 rfl (by omega) (by omega) W
          have H13 := hide fun W => turn_any r.a 13 13 rfl (by omega) (by omega) W
          have H22 := hide fun W => turn_any r.a 22 22 rfl (by omega) (by omega) W
          go_wp2
          go_quiet (fail)
          go_wp2
          generalize hW1 : wr.drewN nq = wr1
          have HW1 := hide hW1
          rw [show ∀ a, wr.cell? a = wr1.cell? a from fun a => by rw [← hW1]; rfl] at z0 z1 z2 z3 z4 z5 z6 z7 k1 k2
          clear hW1
          go_quiet ((first | (go_at_call_of 338 (Value.int .i64 6); exact Calls.quiet_of (H6.out _)) | (go_at_call_of 338 (Value.int .i64 11); exact Calls.quiet_of (H11.out _)) | (go_at_call_of 338 (Value.int .i64 25); exact Calls.quiet_of (H25.out _))))
          go_wp2
          generalize hW2 : wr1.drewN nq = wr2
          have HW2 := hide hW2
          rw [show ∀ a, wr1.cell? a = wr2.cell? a from fun a => by rw [← hW2]; rfl] at z0 z1 z2 z3 z4 z5 z6 z7 k1 k2
          clear hW2
          go_quiet ((first | (go_at_call_of 338 (Value.int .i64 2); exact Calls.quiet_of (H2.out _)) | (go_at_call_of 338 (Value.int .i64 13); exact Calls.quiet_of (H13.out _)) | (go_at_call_of 338 (Value.int .i64 22); exact Calls.quiet_of (H22.out _))))
          have r5' : Hid ((wr2.drewN nq).heap[g3]? = some (.cells (uc r.list) 359 (0, 0))) := by
            rw [← HW2.out, ← HW1.out]; exact r5.out
          rw [one_eq, two_eq]
          have HE' : Hid (rnds b s (t + 1) = ⟨tone kt wt r + ttwo r, r.a, r.b, r.c, r.d + tone kt wt r, r.e, r.f, r.g⟩) := HE.out
          clear HE
          generalize tone kt wt r = p1 at *
          generalize ttwo r = p2 at *
          have hcells : #[Value.int .u32 (((p1.toNat : Int) + p2.toNat) % 4294967296), .int .u32 (r.a.toNat : Int), .int .u32 (r.b.toNat : Int), .int .u32 (r.c.toNat : Int), .int .u32 (((r.d.toNat : Int) + p1.toNat) % 4294967296), .int .u32 (r.e.toNat : Int), .int .u32 (r.f.toNat : Int), .int .u32 (r.g.toNat : Int)] = uc (rnds b s (t + 1)).list := by
            rw [HE'.out, addU, addU]; rfl
          have HCL := hide hcells
          clear hcells HE'
          generalize hL : (rnds b s (t + 1)).list = L at HCL
          have HL := hide hL
          clear hL
          go_wp2_with (refine wpList_storeA A30 rfl _ _ rfl g3 (uc L) (by rw [← HCL.out]; rfl) (uc_one _) rfl (congrArg Value.agg HCL.out) (uc r.list) rfl 359 r5'.out ?_)
          have HH : Hid ((wr2.drewN nq).heap = wr.heap) := by
            rw [← HW2.out, ← HW1.out]; rfl
          have B2 : Hid (Below w.heap.size w (wr2.drewN nq)) := by
            rw [← HW2.out, ← HW1.out]; exact below_drewN (below_drewN (below_drewN bb.out _) _) _
          exact ⟨⟨t + 1, by omega, by go_num, hide ((setRow_other _ _ _ _ (by omega)).trans (by rw [HH.out]; exact r0.out)), hide ((setRow_other _ _ _ _ (by omega)).trans (by rw [HH.out]; exact r2.out)), hide ((setRow_other _ _ _ _ (by omega)).trans (by rw [HH.out]; exact r3.out)), hide ((setRow_other _ _ _ _ (by omega)).trans (by rw [HH.out]; exact r4.out)), hide (by rw [HL.out]; exact setRow_heap _ _ _ _ _ _ r5'.out), hide (below_setRow B2.out (by omega) _)⟩, by simp [intOf]; omega⟩
        · have hte : t = 64 := by omega
          subst hte
          rw [show ((64 : Nat) : Int) = 64 from rfl]
          have HT := hide (show step s b = addS s (rnds b s 64) from rfl)
          generalize rnds b s 64 = r at *
          have R0 : Hid (wr.rowIs w.heap.size 359 8 (adF r s 0)) := row_of (c := uc s.list) rfl r0.out (fun i hi => by rw [st_at s i hi]; simp [adF])
          have R5 : Hid (wr.rowIs g3 359 8 (fun j => .int .u32 ((r.at j).toNat : Int))) := row_of (c := uc r.list) rfl r5.out (fun i hi => st_at r i hi)
          clear r0 r5 r3 r4
          go_wp2
          go_loopw [16] (fun c wx => ∃ i : Nat, i ≤ 8 ∧ c = .int .i64 i ∧ Hid (wx.rowIs w.heap.size 359 8 (adF r s i)) ∧ Hid (wx.heap[w.heap.size + 1 + 1]? = some (.cells (uc zw8) 359 (0, 0))) ∧ Hid (wx.rowIs g3 359 8 (fun j => .int .u32 ((r.at j).toNat : Int))) ∧ Hid (Below w.heap.size w wx)) (fun c _ => (8 - intOf c).toNat)
          case atStart => exact ⟨0, by omega, rfl, R0, r2, R5, bb⟩
          case round =>
            clear R0 r2 R5 bb
            obtain ⟨i, hi, rfl, r0, r2, r5, bb⟩ := hrel
            by_cases hi8 : i < 8
            · have c0 := r0.out.cell hi8
              have c5 := r5.out.cell hi8
              have f0 := r0.out.frozen i
              have t0 : (0 : Int) ≤ i := by omega
              have t1 : (i : Int) < 8 := by omega
              rw [adF_at] at c0
              go_wp2
              go_region
              all_goals go_wp2
              all_goals
                refine ⟨⟨i + 1, by omega, by go_num, hide (((r0.out.set _ _).congr (fun j hj => ?_)).drew), hide ((blk_setCell_other _ _ _ _ (by simp; omega)).trans r2.out), hide ((r5.out.setOther (by simp; omega) _).drew), hide ((bb.out.setCell (by simp) _).drew)⟩, by simp [intOf]; omega⟩
                rw [addU]
                exact adF_step r s i j
            · have hie : i = 8 := by omega
              subst hie
              have H2 : wr.heap[w.heap.size]? = some (.cells (uc (addS r s).list) 359 (0, 0)) := of_row rfl r0.out (fun i hi => by rw [st_at _ i hi, adF_end r s i hi])
              rw [addS_comm] at H2
              go_wp2_with (first | refine wpList_loadA A30 rfl _ rfl _ rfl (uc (addS s r).list) rfl 359 H2 ?_ | refine wpList_storeA A30 rfl _ _ rfl _ (uc (addS s r).list) rfl (uc_one _) rfl rfl (uc zw8) (by rw [uc_size, zw8_len]) 359 r2.out ?_)
              exact bodyPost_ret (v := .agg (uc (addS s r).list)) (resA A30 Tryz.results284 _ _ (w.heap.size + 1 + 1) 359 _ rfl rfl (setRow_heap _ _ _ _ _ _ r2.out)) rfl ⟨by rw [HT.out], below_setRow bb.out (by omega) _⟩
end
end Go.Proofs.YtppooipamibhoaaGreatDoor
