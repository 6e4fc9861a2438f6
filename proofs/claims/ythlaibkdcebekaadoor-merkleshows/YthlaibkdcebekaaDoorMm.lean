/- The contracts of Check and of the document's Check. -/
import Derived.Test.YthlaibkdcebekaaDoorMl
namespace Go.Proofs.YthlaibkdcebekaaDoor
open Go.RowKit
open Go.Deep
/-- To which id one comes by the first k ids of a branch. -/
def ckK (x : List UInt8) (p : Nat) (B : List (List UInt8)) : Nat → List UInt8
  | 0 => x
  | k + 1 => if p / 2 ^ k % 2 = 0 then pr (ckK x p B k) (ia B k) else pr (ia B k) (ckK x p B k)
theorem ckK_len {x : List UInt8} (hx : x.length = 32) (p : Nat) (B : List (List UInt8)) : ∀ k, (ckK x p B k).length = 32
  | 0 => hx
  | k + 1 => by
    rw [ckK]
    split <;> exact pr_len _ _
/-- An id that is changed in its place, and an answer's place. -/
structure Cj (w W : World) (t : TypeId) (x : List UInt8) : Prop where
  a : W.heap[w.heap.size]? = some (.cells (hc x) t (0, 0))
  r : W.heap[w.heap.size + 1]? = some (.cells (hc zeros) t (0, 0))
  bel : Below w.heap.size w W
theorem Cj.start (w : World) (t : TypeId) (x : List UInt8) : Cj w ((w.alloc (.cells (hc x) t)).alloc (.cells (hc zeros) t)) t x := by
  have h2 := heap_alloc_last (w.alloc (.cells (hc x) t)) (.cells (hc zeros) t)
  rw [show (w.alloc (.cells (hc x) t)).heap.size = w.heap.size + 1 by simp] at h2
  exact ⟨(Below.heap_alloc _ _ _ (by simp)).trans (heap_alloc_last w _), h2, ((Below.refl _ _).alloc (Nat.le_refl _) _).alloc (by simp) _⟩
theorem Cj.next {w W W' : World} {t : TypeId} {x : List UInt8} (j : Cj w W t x) (h : Below W.heap.size W W') : Cj w W' t x := ⟨(h.block _ (lt_heap j.a)).trans j.a, (h.block _ (lt_heap j.r)).trans j.r, below_next j.bel h⟩
theorem Cj.put {w W : World} {t : TypeId} {x : List UInt8} (j : Cj w W t x) (y : List UInt8) : Cj w (W.setRow w.heap.size (hc y)) t y := ⟨setRow_heap _ _ _ _ _ _ j.a, (setRow_other _ _ _ _ (by omega)).trans j.r, below_setRow j.bel (Nat.le_refl _) _⟩
section
set_option maxRecDepth 10000
set_option maxHeartbeats 4000000
theorem check_many (x : List UInt8) (p : Int) (v : Value) (B : List (List UInt8)) (w : World) (hB : LH w v B) (hn : 32 < B.length) : Calls Tryd.prog 16 #[.agg (hc x), .int .i64 p, v] w fun e w' => e = .returned (.tuple #[.agg (hc zeros), .int .i64 3]) ∧ Below w.heap.size w w' := by
  obtain ⟨ao, cap, rfl⟩ := hB.form
  have J0 := hide (Cj.start w 39 x)
  have h1 : (32 : Int) < (B.length : Int) := by omega
  clear hB hn
  go_enter Tryd.func16, Tryd.ntmps16
  go_upto_region 1 with (first | refine wpList_boxA rfl _ rfl (hc x) rfl ?_ | refine wpList_allocA A25 rfl rfl ?_)
  generalize (w.alloc (.cells (hc x) 39)).alloc (.cells (hc zeros) 39) = W0 at *
  go_wp2_with (first | refine wpList_buildA A25 rfl rfl ?_ | refine wpList_storeA A25 rfl _ _ rfl _ (hc zeros) (by rw [hc_size, zeros_len]) (hc_one _) rfl rfl (hc zeros) (by rw [hc_size, zeros_len]) 39 J0.out.r ?_)
  exact bodyPost_ret (v := .tuple #[.agg (hc zeros), .int .i64 3]) (resAB A25 Tryd.results16 _ _ (w.heap.size + 1) 39 (hc zeros) (by rw [hc_size, zeros_len]) rfl (setRow_heap _ _ _ _ _ _ J0.out.r) _ (by rfl)) rfl ⟨rfl, below_setRow J0.out.bel (by omega) _⟩
theorem check_place (x : List UInt8) (p : Int) (v : Value) (B : List (List UInt8)) (w : World) (hB : LH w v B) (hn : ¬ 32 < B.length) (hp : p < 0 ∨ ((2 ^ B.length : Nat) : Int) ≤ p) : Calls Tryd.prog 16 #[.agg (hc x), .int .i64 p, v] w fun e w' => e = .returned (.tuple #[.agg (hc zeros), .int .i64 60]) ∧ Below w.heap.size w w' := by
  obtain ⟨ao, cap, rfl⟩ := hB.form
  have J0 := hide (Cj.start w 39 x)
  have h1 : ¬ (32 : Int) < (B.length : Int) := by omega
  clear hB
  rcases hp with hp | hp
  · clear hn
    go_enter Tryd.func16, Tryd.ntmps16
    go_upto_region 1 with (first | refine wpList_boxA rfl _ rfl (hc x) rfl ?_ | refine wpList_allocA A25 rfl rfl ?_)
    generalize (w.alloc (.cells (hc x) 39)).alloc (.cells (hc zeros) 39) = W0 at *
    go_wp2_with (first | refine wpList_buildA A25 rfl rfl ?_ | refine wpList_storeA A25 rfl _ _ rfl _ (hc zeros) (by rw [hc_size, zeros_len]) (hc_one _) rfl rfl (hc zeros) (by rw [hc_size, zeros_len]) 39 J0.out.r ?_)
    exact bodyPost_ret (v := .tuple #[.agg (hc zeros), .int .i64 60]) (resAB A25 Tryd.results16 _ _ (w.heap.size + 1) 39 (hc zeros) (by rw [hc_size, zeros_len]) rfl (setRow_heap _ _ _ _ _ _ J0.out.r) _ (by rfl)) rfl ⟨rfl, below_setRow J0.out.bel (by omega) _⟩
  · have h0 : ¬ p < 0 := by have : (0 : Int) ≤ ((2 ^ B.length : Nat) : Int) := Int.natCast_nonneg _; omega
    go_enter Tryd.func16, Tryd.ntmps16
    go_upto_region 1 with (first | refine wpList_boxA rfl _ rfl (hc x) rfl ?_ | refine wpList_allocA A25 rfl rfl ?_)
    generalize (w.alloc (.cells (hc x) 39)).alloc (.cells (hc zeros) 39) = W0 at *
    have hsh : (p / 2 ^ B.length != 0) = true := by
      have h2 : (0 : Int) < 2 ^ B.length := Int.pow_pos (by decide)
      have h3 : 1 ≤ p / 2 ^ B.length := Int.le_ediv_of_mul_le h2 (by rw [Int.one_mul]; simpa using hp)
      rw [bne_iff_ne]
      omega
    clear hp hn
    go_wp2_with (first | refine wpList_buildA A25 rfl rfl ?_ | refine wpList_storeA A25 rfl _ _ rfl _ (hc zeros) (by rw [hc_size, zeros_len]) (hc_one _) rfl rfl (hc zeros) (by rw [hc_size, zeros_len]) 39 J0.out.r ?_)
    exact bodyPost_ret (v := .tuple #[.agg (hc zeros), .int .i64 60]) (resAB A25 Tryd.results16 _ _ (w.heap.size + 1) 39 (hc zeros) (by rw [hc_size, zeros_len]) rfl (setRow_heap _ _ _ _ _ _ J0.out.r) _ (by rfl)) rfl ⟨rfl, below_setRow J0.out.bel (by omega) _⟩
theorem check_yes (x : List UInt8) (hx : x.length = 32) (p : Nat) (v : Value) (B : List (List UInt8)) (w : World) (hB : LH w v B) (hn : B.length ≤ 32) (hp : p < 2 ^ B.length) (hK : Kg w) : Calls Tryd.prog 16 #[.agg (hc x), .int .i64 (p : Int), v] w fun e w' => e = .returned (.tuple #[.agg (hc (ckK x p B B.length)), .int .i64 0]) ∧ Below w.heap.size w w' := by
  obtain ⟨ao, cap, rfl⟩ := hB.form
  have J0 : Hid (Cj w ((w.alloc (.cells (hc x) 39)).alloc (.cells (hc zeros) 39)) 39 (ckK x p B 0)) := Cj.start w 39 x
  have KW : Hid (∀ W, Below w.heap.size w W → Kg W) := fun W h => hK.next h
  have h1 : ¬ (32 : Int) < (B.length : Int) := by omega
  have h0 : ¬ (p : Int) < 0 := by omega
  have hsh : ((p : Int) / 2 ^ B.length != 0) = false := by
    have h2 : (p : Int) / 2 ^ B.length = 0 := Int.ediv_eq_zero_of_lt (by omega) (by
      have : ((p : Nat) : Int) < ((2 ^ B.length : Nat) : Int) := by exact_mod_cast hp
      simpa using this)
    rw [h2]
    rfl
  have hp32 : p < 4294967296 := Nat.lt_of_lt_of_le hp (show 2 ^ B.length ≤ 2 ^ 32 from Nat.pow_le_pow_right (by decide) hn)
  have HP0 := hide (show p / 2 ^ 0 = p by simp)
  have HB := hide hB
  have HX := hide (ckK_len hx p B)
  have HN := hide (And.intro hn hp32)
  have LB : (B.length : Int) ≤ 32 := by omega
  clear hB hK hn hp hx hp32
  go_enter Tryd.func16, Tryd.ntmps16
  go_upto_region 1 with (first | refine wpList_boxA rfl _ rfl (hc x) rfl ?_ | refine wpList_allocA A25 rfl rfl ?_)
  generalize (w.alloc (.cells (hc x) 39)).alloc (.cells (hc zeros) 39) = W0 at *
  go_wp2
  clear hsh h1 h0
  go_loopw [1, 9, 26] (fun q _ d wr => ∃ k : Nat, k ≤ B.length ∧ q = .int .i64 ((p / 2 ^ k : Nat) : Int) ∧ d = .int .i64 (k : Int) ∧ Hid (Cj w wr 39 (ckK x p B k))) (fun _ _ d _ => (B.length - intOf d).toNat)
  case atStart => exact ⟨0, Nat.zero_le _, by rw [HP0.out], rfl, J0⟩
  case round =>
    clear J0
    obtain ⟨k, hk, rfl, rfl, J⟩ := hrel
    obtain ⟨hn, hp32⟩ := HN.out
    by_cases hlt : k < B.length
    · obtain ⟨g, off, rfl⟩ := HB.out.base (by omega)
      have h1 : (k : Int) < (B.length : Int) := by omega
      have h2 : (0 : Int) ≤ (k : Int) := by omega
      have e2 : IntKind.i64.wrap ((k : Int) + 1) = k + 1 := wrapI _ (by omega) (by omega)
      have l1 := hide (HB.out.1.at k hlt)
      have l2 := hide (HX.out k)
      have l3 := hide (HX.out (k + 1))
      have R1 := hide ((HB.out.below J.out.bel).range k hlt)
      have KK := hide (And.intro (show k + 1 ≤ B.length by omega) (show ((B.length : Int) - ((k + 1 : Nat) : Int)).toNat < ((B.length : Int) - (k : Int)).toNat by omega))
      have HW := hide (half_way p k)
      have CS := hide (show ckK x p B (k + 1) = if p / 2 ^ k % 2 = 0 then pr (ckK x p B k) (ia B k) else pr (ia B k) (ckK x p B k) from rfl)
      have HP1 := hide fun W hW => pair_any _ _ l2.out l1.out W hW
      have HP2 := hide fun W hW => pair_any _ _ l1.out l2.out W hW
      have hx32 : p / 2 ^ k < 4294967296 := Nat.lt_of_le_of_lt (Nat.div_le_self _ _) hp32
      generalize hY0 : ckK x p B (k + 1) = Y at *
      have HY0 := hide hY0
      clear hY0
      generalize ckK x p B k = X at *
      generalize ia B k = A at *
      generalize p / 2 ^ k = x1 at *
      have h5 : (x1 : Int) / 2 = ((x1 / 2 : Nat) : Int) := by omega
      have h6 : (0 : Int) ≤ (x1 : Int) := by omega
      have h7 : wrap64 ((x1 / 2 : Nat) : Int) = ((x1 / 2 : Nat) : Int) := by unfold wrap64; omega
      have h8 : (x1 : Int) % 2 = ((x1 % 2 : Nat) : Int) := by omega
      have J1 := hide (J.out.next ((Below.refl _ _).alloc (Nat.le_refl _) (.cells (hc A) 39)))
      have b1 := hide (heap_alloc_last wr (.cells (hc A) 39))
      have KEY : (((x1 : Int) % 2 == 0) = true ∧ Y = pr X A) ∨ (((x1 : Int) % 2 == 0) = false ∧ Y = pr A X) := by
        rcases Nat.mod_two_eq_zero_or_one x1 with e | e
        · exact .inl ⟨by rw [h8, e]; rfl, by rw [CS.out, if_pos e]⟩
        · exact .inr ⟨by rw [h8, e]; rfl, by rw [CS.out, if_neg (by omega)]⟩
      generalize x1 / 2 = x2 at *
      clear hlt hk hn hp32 hx32 CS h8
      go_upto_region 8 with (first | refine ET.wpLoad EH rfl _ rfl g (off + k * 32) rfl A l1.out R1.out ?_ | refine wpList_allocA A25 rfl rfl ?_ | refine wpList_store_newA A25 rfl _ _ rfl _ rfl (hc A) (by rw [hc_size, l1.out]) (hc_one _) rfl rfl ?_)
      generalize wr.alloc (.cells (hc A) 39) = W1 at *
      generalize wr.heap.size = g9 at *
      have a1 := hide J1.out.a
      rcases KEY with ⟨t1, hY⟩ | ⟨t1, hY⟩
      · rw [← hY] at HP1
        clear HP2 hY
        go_wp2_with (first | refine wpList_loadA A25 rfl _ rfl w.heap.size rfl (hc X) (by rw [hc_size, l2.out]) 39 a1.out ?_ | refine wpList_loadA A25 rfl _ rfl g9 rfl (hc A) (by rw [hc_size, l1.out]) 39 b1.out ?_ | (go_at_call 30; refine (HP1.out _ (KW.out _ J1.out.bel)).mono ?_; rintro e w3 ⟨rfl, be⟩; have J3 := hide (J1.out.next be); have a3 := hide J3.out.a; clear be) | refine wpList_storeA A25 rfl _ _ rfl _ (hc Y) (by rw [hc_size, l3.out]) (hc_one _) rfl rfl (hc X) (by rw [hc_size, l2.out]) 39 a3.out ?_)
        exact ⟨⟨k + 1, KK.out.1, by rw [← HW.out]; first | rfl | rw [h7], by go_num, by rw [HY0.out]; exact J3.out.put Y⟩, by simpa [intOf] using KK.out.2⟩
      · rw [← hY] at HP2
        clear HP1 hY
        go_wp2_with (first | refine wpList_loadA A25 rfl _ rfl w.heap.size rfl (hc X) (by rw [hc_size, l2.out]) 39 a1.out ?_ | refine wpList_loadA A25 rfl _ rfl g9 rfl (hc A) (by rw [hc_size, l1.out]) 39 b1.out ?_ | (go_at_call 30; refine (HP2.out _ (KW.out _ J1.out.bel)).mono ?_; rintro e w3 ⟨rfl, be⟩; have J3 := hide (J1.out.next be); have a3 := hide J3.out.a; clear be) | refine wpList_storeA A25 rfl _ _ rfl _ (hc Y) (by rw [hc_size, l3.out]) (hc_one _) rfl rfl (hc X) (by rw [hc_size, l2.out]) 39 a3.out ?_)
        exact ⟨⟨k + 1, KK.out.1, by rw [← HW.out]; first | rfl | rw [h7], by go_num, by rw [HY0.out]; exact J3.out.put Y⟩, by simpa [intOf] using KK.out.2⟩
    · have h1 : ¬ (k : Int) < (B.length : Int) := by omega
      have hke : k = B.length := by omega
      subst hke
      have l2 := hide (HX.out B.length)
      generalize hX0 : ckK x p B B.length = X at *
      have HX0 := hide hX0
      clear hX0
      generalize p / 2 ^ B.length = x1 at *
      have a1 := hide J.out.a
      clear hlt hk hn hp32
      go_wp2_with (first | refine wpList_loadA A25 rfl _ rfl w.heap.size rfl (hc X) (by rw [hc_size, l2.out]) 39 a1.out ?_ | refine wpList_storeA A25 rfl _ _ rfl _ (hc X) (by rw [hc_size, l2.out]) (hc_one _) rfl rfl (hc zeros) (by rw [hc_size, zeros_len]) 39 J.out.r ?_)
      exact bodyPost_ret (v := .tuple #[.agg (hc X), .int .i64 0]) (resAB A25 Tryd.results16 _ _ (w.heap.size + 1) 39 (hc X) (by rw [hc_size, l2.out]) rfl (setRow_heap _ _ _ _ _ _ J.out.r) _ (by rfl)) rfl ⟨by rw [HX0.out], below_setRow J.out.bel (by omega) _⟩
end
end Go.Proofs.YthlaibkdcebekaaDoor
