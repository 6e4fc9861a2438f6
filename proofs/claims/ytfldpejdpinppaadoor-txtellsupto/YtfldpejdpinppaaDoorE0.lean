/- The document's step: the contracts of constants and of its Step. -/
import Derived.Test.YtfldpejdpinppaaDoorD
namespace Go.Proofs.YtfldpejdpinppaaDoor
open Go.RowKit
open Go.Deep
theorem cell_set_far (w : World) (b b' i j : Nat) (v : Value) (h : b ≠ b') : (w.setCell ⟨b, i, none⟩ v).cell? ⟨b', j, none⟩ = w.cell? ⟨b', j, none⟩ :=
  World.cell?_setCell_other _ _ _ _ (by intro e; cases e; exact h rfl)
theorem cell_set_far_drew (w : World) (b b' i j : Nat) (v : Value) (h : b ≠ b') : (w.setCell ⟨b, i, none⟩ v).drew.cell? ⟨b', j, none⟩ = w.cell? ⟨b', j, none⟩ := cell_set_far w b b' i j v h
theorem shr10 (x : UInt32) : (x.toNat : Int) / 1024 = ((x >>> UInt32.ofNat 10).toNat : Int) := shrU x 10 (by omega)
theorem shr3 (x : UInt32) : (x.toNat : Int) / 8 = ((x >>> UInt32.ofNat 3).toNat : Int) := shrU x 3 (by omega)
theorem join32 (i : Nat) (x y : Int) (h0 : 0 ≤ x) (hm : x % 2 ^ i = 0) (h1 : x < 4294967296) (g0 : 0 ≤ y) (g1 : y < 2 ^ i) (g2 : y < 4294967296) : bits .or .u32 x y = x + y :=
  bits_join .u32 32 (by decide) (fun n h0 h1 => by rw [wrapU]; omega) i x y h0 hm h1 g0 g1 g2
theorem word_or (b : List UInt8) (t : Nat) : bits .or .u32 (bits .or .u32 (bits .or .u32 ((by8 b (4 * t) : Int) % 4294967296 * 16777216 % 4294967296) ((by8 b (4 * t + 1) : Int) % 4294967296 * 65536 % 4294967296)) ((by8 b (4 * t + 2) : Int) % 4294967296 * 256 % 4294967296)) ((by8 b (4 * t + 3) : Int) % 4294967296) = ((word b t).toNat : Int) := by
  have h0 := by8_lt b (4 * t)
  have h1 := by8_lt b (4 * t + 1)
  have h2 := by8_lt b (4 * t + 2)
  have h3 := by8_lt b (4 * t + 3)
  have e0 : (by8 b (4 * t) : Int) % 4294967296 * 16777216 % 4294967296 = (by8 b (4 * t) : Int) * 16777216 := by omega
  have e1 : (by8 b (4 * t + 1) : Int) % 4294967296 * 65536 % 4294967296 = (by8 b (4 * t + 1) : Int) * 65536 := by omega
  have e2 : (by8 b (4 * t + 2) : Int) % 4294967296 * 256 % 4294967296 = (by8 b (4 * t + 2) : Int) * 256 := by omega
  have e3 : (by8 b (4 * t + 3) : Int) % 4294967296 = (by8 b (4 * t + 3) : Int) := by omega
  rw [e0, e1, e2, e3, join32 24 ((by8 b (4 * t) : Int) * 16777216) ((by8 b (4 * t + 1) : Int) * 65536) (by omega) (by omega) (by omega) (by omega) (by omega) (by omega), join32 16 ((by8 b (4 * t) : Int) * 16777216 + (by8 b (4 * t + 1) : Int) * 65536) ((by8 b (4 * t + 2) : Int) * 256) (by omega) (by omega) (by omega) (by omega) (by omega) (by omega), join32 8 ((by8 b (4 * t) : Int) * 16777216 + (by8 b (4 * t + 1) : Int) * 65536 + (by8 b (4 * t + 2) : Int) * 256) (by8 b (4 * t + 3) : Int) (by omega) (by omega) (by omega) (by omega) (by omega) (by omega)]
  unfold word
  rw [UInt32.toNat_ofNat']
  omega
theorem sq_step (b : List UInt8) (k j : Nat) : (if j = k then Value.int .u32 ((ws b k).toNat : Int) else sqF b k j) = sqF b (k + 1) j := by
  unfold sqF
  by_cases e : j = k
  · subst e
    rw [if_pos rfl, if_pos (by omega)]
  · rw [if_neg e]
    by_cases e2 : j < k
    · rw [if_pos e2, if_pos (by omega)]
    · rw [if_neg e2, if_neg (by omega)]
theorem one_eq (r : St) (kt wt : UInt32) : (((r.h.toNat : Int) + bits BinOp.xor IntKind.u32 (bits BinOp.xor IntKind.u32 ((rotr r.e 6).toNat : Int) ((rotr r.e 11).toNat : Int)) ((rotr r.e 25).toNat : Int) + bits BinOp.xor IntKind.u32 (bits BinOp.and IntKind.u32 (r.e.toNat : Int) (r.f.toNat : Int)) (bits BinOp.and IntKind.u32 ((4294967295 - (r.e.toNat : Int)) % 4294967296) (r.g.toNat : Int)) + (kt.toNat : Int)) % 4294967296 + (wt.toNat : Int)) % 4294967296 = ((tone kt wt r).toNat : Int) := by
  rw [xorU, xorU, subU, andU, andU, xorU]
  have h := add5 r.h (rotr r.e 6 ^^^ rotr r.e 11 ^^^ rotr r.e 25) ((r.e &&& r.f) ^^^ (~~~r.e &&& r.g)) kt wt
  rw [Int.emod_add_emod, h]
  rfl
theorem two_eq (r : St) : (bits BinOp.xor IntKind.u32 (bits BinOp.xor IntKind.u32 ((rotr r.a 2).toNat : Int) ((rotr r.a 13).toNat : Int)) ((rotr r.a 22).toNat : Int) + bits BinOp.xor IntKind.u32 (bits BinOp.xor IntKind.u32 (bits BinOp.and IntKind.u32 (r.a.toNat : Int) (r.b.toNat : Int)) (bits BinOp.and IntKind.u32 (r.a.toNat : Int) (r.c.toNat : Int))) (bits BinOp.and IntKind.u32 (r.b.toNat : Int) (r.c.toNat : Int))) % 4294967296 = ((ttwo r).toNat : Int) := by
  rw [xorU, xorU, andU, andU, andU, xorU, xorU, addU]
  rfl
theorem addS_comm (x y : St) : addS x y = addS y x := by
  simp [addS, UInt32.add_comm]
theorem rs_mid {w wr : World} {g1 : Nat} {C0 C1 C2 C3 A : Obj} (r0 : wr.heap[w.heap.size]? = some C0) (r2 : wr.heap[w.heap.size + 1 + 1]? = some C1) (r3 : wr.heap[g1]? = some C2) (r4 : wr.heap[g1 + 1]? = some C3) (bb : Below w.heap.size w wr) :
    Hid ((wr.alloc A).heap[w.heap.size]? = some C0) ∧ Hid ((wr.alloc A).heap[w.heap.size + 1 + 1]? = some C1) ∧ Hid ((wr.alloc A).heap[g1]? = some C2) ∧ Hid ((wr.alloc A).heap[g1 + 1]? = some C3) ∧ Hid ((wr.alloc A).heap[wr.heap.size]? = some A) ∧ Hid (Below w.heap.size w (wr.alloc A)) ∧ Hid (g1 + 1 < wr.heap.size) :=
  ⟨(Below.heap_alloc _ A _ (lt_heap r0)).trans r0, (Below.heap_alloc _ A _ (lt_heap r2)).trans r2, (Below.heap_alloc _ A _ (lt_heap r3)).trans r3, (Below.heap_alloc _ A _ (lt_heap r4)).trans r4, heap_alloc_last _ _, bb.alloc bb.size _, lt_heap r4⟩
theorem mid2 {w w1 : World} {A B C D E : Obj} (b1 : Below (((w.alloc A).alloc B).alloc C).heap.size (((w.alloc A).alloc B).alloc C) w1) :
    Hid (((w1.alloc D).alloc E).heap[w.heap.size]? = some A) ∧ Hid (((w1.alloc D).alloc E).heap[w.heap.size + 1]? = some B) ∧ Hid (((w1.alloc D).alloc E).heap[w.heap.size + 1 + 1]? = some C) ∧ Hid (((w1.alloc D).alloc E).heap[w1.heap.size]? = some D) ∧ Hid (((w1.alloc D).alloc E).heap[w1.heap.size + 1]? = some E) ∧ Hid (Below w.heap.size w ((w1.alloc D).alloc E)) ∧ Hid (w.heap.size + 1 + 1 < w1.heap.size) := by
  obtain ⟨x0, x1, x2⟩ := blk3 w A B C
  have hN : (((w.alloc A).alloc B).alloc C).heap.size = w.heap.size + 1 + 1 + 1 := by simp
  have hs := b1.size
  have B1 : Below w.heap.size w w1 := (below3 w A B C).trans (b1.mono (by omega))
  have s1 : (w1.alloc D).heap.size = w1.heap.size + 1 := by simp
  have e2 := heap_alloc_last (w1.alloc D) E
  rw [s1] at e2
  have old : ∀ k, k < w.heap.size + 1 + 1 + 1 → ((w1.alloc D).alloc E).heap[k]? = (((w.alloc A).alloc B).alloc C).heap[k]? := fun k hk =>
    (Below.heap_alloc _ _ _ (by omega)).trans ((Below.heap_alloc _ _ _ (by omega)).trans (b1.block _ (by omega)))
  refine ⟨(old _ (by omega)).trans x0, (old _ (by omega)).trans x1, (old _ (by omega)).trans x2, (Below.heap_alloc _ _ _ (by omega)).trans (heap_alloc_last _ _), e2, (B1.alloc B1.size _).alloc (by have := B1.size; simp; omega) _, ?_⟩
  show w.heap.size + 1 + 1 < w1.heap.size
  omega
section
set_option maxRecDepth 10000
set_option maxHeartbeats 1000000
theorem constants_any (w : World) : Calls Tryd.prog 51 #[] w fun e w' => e = .returned (.agg (uc kL)) ∧ Below w.heap.size w w' := by
  go_enter Tryd.func51, Tryd.ntmps51
  go_wp2_with (first | refine wpList_allocA A66 rfl rfl ?_ | refine wpList_store_newA A66 rfl _ _ rfl _ rfl (uc kL) (by rw [uc_size, kL_len]) (uc_one _) rfl (by kernel_rfl) ?_)
  exact bodyPost_ret (v := .agg (uc kL)) (resA A66 Tryd.results51 _ _ w.heap.size 102 _ (by rw [uc_size, kL_len]) rfl (heap_alloc_last _ _)) rfl ⟨rfl, (Below.refl _ _).alloc (Nat.le_refl _) _⟩
end
end Go.Proofs.YtfldpejdpinppaaDoor
