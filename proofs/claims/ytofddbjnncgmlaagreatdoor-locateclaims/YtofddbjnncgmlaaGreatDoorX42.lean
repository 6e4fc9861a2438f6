/- The contract of the document's Work. The contracts of the document's Over and FromWords. -/
import Derived.Test.YtofddbjnncgmlaaGreatDoorX41
import Derived.Test.YtofddbjnncgmlaaGreatDoorX21
import Derived.Test.YtofddbjnncgmlaaGreatDoorX20
namespace Go.Proofs.YtofddbjnncgmlaaGreatDoor
open Go.RowKit
open Go.Deep
/-- A number and 1, where the digits below i are all 255. -/
theorem succ_dg (T i j : Nat) (h : T % 256 ^ i = 256 ^ i - 1) (hd : dg 256 T i < 255) : (if j = i then dg 256 T i + 1 else if j < i then 0 else dg 256 T j) = dg 256 (T + 1) j := by
  have hP : 0 < 256 ^ i := Nat.pow_pos (by decide)
  have hT := Nat.div_add_mod T (256 ^ i)
  rw [h] at hT
  unfold dg at *
  generalize hH : T / 256 ^ i = H at *
  have e1 : T + 1 = 256 ^ i * (H + 1) := by rw [Nat.mul_add, Nat.mul_one]; omega
  have q1 : (T + 1) / 256 ^ i = H + 1 := by rw [e1, Nat.mul_div_cancel_left _ hP]
  rcases Nat.lt_trichotomy j i with hj | hj | hj
  · rw [if_neg (by omega), if_pos hj]
    obtain ⟨e, he⟩ : ∃ e, i = j + (e + 1) := ⟨i - j - 1, by omega⟩
    rw [e1, he, Nat.pow_add, Nat.mul_assoc, Nat.mul_div_cancel_left _ (Nat.pow_pos (by decide)), Nat.pow_succ, Nat.mul_assoc, Nat.mul_left_comm, Nat.mul_mod_right]
  · subst hj
    rw [if_pos rfl, q1]
    omega
  · rw [if_neg (by omega), if_neg (by omega)]
    obtain ⟨e, he⟩ : ∃ e, j = i + (1 + e) := ⟨j - i - 1, by omega⟩
    rw [he, Nat.pow_add, ← Nat.div_div_eq_div_mul, ← Nat.div_div_eq_div_mul, q1, hH, Nat.pow_add, Nat.pow_one, ← Nat.div_div_eq_div_mul, ← Nat.div_div_eq_div_mul, show (H + 1) / 256 = H / 256 by omega]
theorem full_next (T i : Nat) (h : T % 256 ^ i = 256 ^ i - 1) (hd : dg 256 T i = 255) : T % 256 ^ (i + 1) = 256 ^ (i + 1) - 1 := by
  have hP : 0 < 256 ^ i := Nat.pow_pos (by decide)
  rw [Nat.pow_succ, Nat.mod_mul, h]
  unfold dg at hd
  rw [hd]
  omega
def zf (T i j : Nat) : Nat := if j < i then 0 else dg 256 T j
theorem zf_next (T i j : Nat) : (if j = i then 0 else zf T i j) = zf T (i + 1) j := by
  unfold zf
  by_cases e : j = i
  · rw [if_pos e, if_pos (by omega)]
  · rw [if_neg e]
    by_cases e2 : j < i
    · rw [if_pos e2, if_pos (by omega)]
    · rw [if_neg e2, if_neg (by omega)]
/-- One more in the lowest byte of an even number. -/
theorem odd_byte (x : Nat) : dg 256 (2 * x) 0 + 1 < 256 ∧ ∀ j, (if j = 0 then dg 256 (2 * x) 0 + 1 else dg 256 (2 * x) j) = dg 256 (2 * x + 1) j := by
  have h0 : dg 256 (2 * x) 0 + 1 < 256 := by unfold dg; omega
  refine ⟨h0, fun j => ?_⟩
  split
  · rename_i h
    subst h
    unfold dg at *
    omega
  · rename_i h
    unfold dg
    obtain ⟨i, rfl⟩ : ∃ i, j = i + 1 := ⟨j - 1, by omega⟩
    rw [Nat.pow_succ, Nat.mul_comm (_ ^ i), ← Nat.div_div_eq_div_mul, ← Nat.div_div_eq_div_mul, show (2 * x + 1) / 256 = 2 * x / 256 by omega]
/-- The first bits of 2^256, down to the bit k. -/
def A257 (k : Nat) : Nat := if k = 257 then 0 else 2 ^ (256 - k)
theorem A_step (k : Nat) (h : k ≤ 256) : A257 k = 2 * A257 (k + 1) + (if k = 256 then 1 else 0) := by
  unfold A257
  by_cases e : k = 256
  · subst e
    decide
  · rw [if_neg (by omega), if_neg (by omega), if_neg e, show 256 - k = (256 - (k + 1)) + 1 by omega, Nat.pow_succ]
    omega
theorem A_div (A D c : Nat) (hD : 0 < D) (hc : c ≤ 1) : (2 * (A % D) + c < D → (2 * A + c) % D = 2 * (A % D) + c ∧ (2 * A + c) / D = 2 * (A / D)) ∧ (¬ 2 * (A % D) + c < D → (2 * A + c) % D = 2 * (A % D) + c - D ∧ (2 * A + c) / D = 2 * (A / D) + 1) := by
  have h1 := Nat.div_add_mod A D
  have h2 := Nat.mod_lt A hD
  generalize A % D = r at *
  generalize A / D = q at *
  have e : 2 * A + c = D * (2 * q) + (2 * r + c) := by rw [← h1, Nat.mul_add, Nat.mul_left_comm]; omega
  rw [e, Nat.mul_add_mod, Nat.mul_add_div hD]
  refine ⟨fun h => ?_, fun h => ?_⟩
  · rw [Nat.mod_eq_of_lt h, Nat.div_eq_of_lt h]
    simp
  · rw [Nat.mod_eq_sub_mod (by omega), Nat.mod_eq_of_lt (by omega), Nat.div_eq_sub_div hD (by omega), Nat.div_eq_of_lt (by omega)]
    simp
/-- An answer's place, and a number that is changed in its place. -/
structure Wk (w W : World) (g : Nat) (f : Nat → Nat) : Prop where
  r : W.heap[w.heap.size]? = some (.cells (bn 0) 180 (0, 0))
  a : Ni W g 180 40 f
  lt : w.heap.size < g
  bel : Below w.heap.size w W
section
variable {w W : World} {g : Nat} {f : Nat → Nat}
theorem Wk.set (j : Wk w W g f) (i x : Nat) {f' : Nat → Nat} (e : ∀ k, k < 40 → (if k = i then x else f k) = f' k) : Wk w (W.setCell ⟨g, i, none⟩ (.int .i64 ((x : Nat) : Int))) g f' :=
  ⟨(Below.heap_setCell _ _ _ _ (by have := j.lt; simp; omega)).trans j.r, (j.a.set i x).congr e, j.lt, j.bel.setCell (Nat.le_of_lt j.lt) _⟩
theorem Wk.congr (j : Wk w W g f) {f' : Nat → Nat} (e : ∀ k, k < 40 → f k = f' k) : Wk w W g f' := ⟨j.r, j.a.congr e, j.lt, j.bel⟩
theorem Rc.inc {l l' : List (Nat × TypeId × Array Value)} {x : Nat} (j : Rc w W l) (h : (g, 180, bn (2 * x)) ∈ l) (hg : w.heap.size ≤ g) (hl : ∀ p ∈ l', p = (g, 180, bn (2 * x + 1)) ∨ (p ∈ l ∧ p.1 ≠ g)) : Rc w (W.setCell ⟨g, 0, none⟩ (.int .i64 ((dg 256 (2 * x) 0 + 1 : Nat) : Int))) l' := by
  refine ⟨fun p hp => ?_, j.bel.setCell hg _⟩
  rcases hl p hp with rfl | ⟨h1, h2⟩
  · exact (((Ni.of_heap (j.at h)).set 0 (dg 256 (2 * x) 0 + 1)).congr (fun k _ => (odd_byte x).2 k)).heap
  · exact (Below.heap_setCell _ _ _ _ h2).trans (j.row p h1)
end
theorem MB_big : 2 * (Lm + 1) < MB := by decide +kernel
theorem M_256 : M = 256 ^ 32 := by decide +kernel
section
set_option maxRecDepth 10000
set_option maxHeartbeats 8000000
theorem workN_no (b : Nat) (hb : b < 4294967296) (h : okB b = false) (w : World) : Calls Tryz.prog 88 #[.int .u32 (b : Int)] w fun e w' => e = .returned (.tuple #[.agg (bn 0), .bool false]) ∧ Below w.heap.size w w' := by
  have HE := hide fun W => expandN_any b hb W
  rw [h] at HE
  have J0 := hide (Rc.start1 w 180 (bn 0))
  generalize xt b = T at *
  clear h hb
  go_enter Tryz.func88, Tryz.ntmps88
  go_upto_region 1 with (refine wpList_allocA AN rfl rfl ?_)
  generalize w.alloc (.cells (bn 0) 180) = W0 at *
  go_upto_region 2 with (first | (go_at_call 178; refine (HE.out _).mono ?_; rintro e w1 ⟨rfl, be⟩; have J1 := hide ((J0.out.next be).new 180 (bn T)); clear be) | refine wpList_allocA AN rfl rfl ?_ | refine wpList_store_newA AN rfl _ _ rfl _ rfl (bn T) (bn_size _) (bn_one _) rfl rfl ?_)
  generalize w1.alloc (.cells (bn T) 180) = W1 at *
  have r1 := hide (J1.out.at (g := w.heap.size) (t := 180) (c := bn 0) (by simp))
  go_wp2_with (first | refine wpList_buildA AN rfl rfl ?_ | refine wpList_storeA AN rfl _ _ rfl _ (bn 0) (bn_size _) (bn_one _) rfl rfl (bn 0) (bn_size 0) 180 r1.out ?_)
  exact bodyPost_ret (v := .tuple #[.agg (bn 0), .bool false]) (resA2 AN Tryz.results88 _ _ w.heap.size 180 (bn 0) (bn_size _) rfl (setRow_heap _ _ _ _ _ _ r1.out) _ (by rfl)) rfl ⟨rfl, below_setRow J1.out.bel (Nat.le_refl _) _⟩
theorem workN_yes (b : Nat) (hb : b < 4294967296) (h : okB b = true) (w : World) : Calls Tryz.prog 88 #[.int .u32 (b : Int)] w fun e w' => e = .returned (.tuple #[.agg (bn (2 ^ 256 / (xt b + 1))), .bool true]) ∧ Below w.heap.size w w' := by
  have HE := hide fun W => expandN_any b hb W
  rw [h] at HE
  have hT1 : xt b ≤ Lm := xt_le b
  have hT0 : 0 < xt b := by
    have := (okB_iff b).1 h
    unfold xt
    rw [h]
    exact this.2.1
  have J0 := hide (Rc.start1 w 180 (bn 0))
  generalize xt b = T at *
  have HT := hide (And.intro hT0 hT1)
  have HTM : Hid (T < 256 ^ 32) := by
    show T < 256 ^ 32
    rw [← M_256]
    exact Nat.lt_of_le_of_lt hT1 Lm_M
  clear h hb hT0 hT1
  go_enter Tryz.func88, Tryz.ntmps88
  go_upto_region 1 with (refine wpList_allocA AN rfl rfl ?_)
  generalize w.alloc (.cells (bn 0) 180) = W0 at *
  go_upto_region 2 with (first | (go_at_call 178; refine (HE.out _).mono ?_; rintro e w1 ⟨rfl, be⟩; have J1 := hide ((J0.out.next be).new 180 (bn T)); have R0 := hide (lt_heap ((J0.out.next be).at (g := w.heap.size) (t := 180) (c := bn 0) (by simp))); clear be) | refine wpList_allocA AN rfl rfl ?_ | refine wpList_store_newA AN rfl _ _ rfl _ rfl (bn T) (bn_size _) (bn_one _) rfl rfl ?_)
  try simp only [Act.put, List.setIfInBounds_toArray, List.set_cons_succ, List.set_cons_zero]
  have K0 : Hid (Wk w (w1.alloc (.cells (bn T) 180)) w1.heap.size (zf T 0)) := ⟨J1.out.at (by simp), (Ni.of_heap (f := dg 256 T) (J1.out.at (c := bn T) (by simp))).congr (fun k _ => by unfold zf; rw [if_neg (by omega)]), R0.out, J1.out.bel⟩
  generalize w1.alloc (.cells (bn T) 180) = W1 at *
  generalize w1.heap.size = g4 at *
  clear J0 J1 HE R0
  go_wp2
  go_loopw [6] (fun d wr => ∃ i : Nat, d = .int .i64 (i : Int) ∧ Hid (Wk w wr g4 (zf T i)) ∧ Hid (T % 256 ^ i = 256 ^ i - 1)) (fun d _ => (40 - intOf d).toNat)
  case atStart => exact ⟨0, rfl, K0, by show T % 256 ^ 0 = 256 ^ 0 - 1; simp [Nat.mod_one]⟩
  case round =>
    clear K0
    obtain ⟨i, rfl, K, HF⟩ := hrel
    have hi : i ≤ 32 := by
      rcases Nat.lt_or_ge 32 i with h | h
      · have h1 : 256 ^ 33 ≤ 256 ^ i := Nat.pow_le_pow_right (by decide) h
        have h2 := Nat.mod_le T (256 ^ i)
        rw [HF.out] at h2
        have h3 : (256 : Nat) ^ 32 + 1 ≤ 256 ^ 33 := by decide
        have h4 := HTM.out
        generalize (256 : Nat) ^ i = P at *
        generalize (256 : Nat) ^ 33 = P3 at *
        generalize (256 : Nat) ^ 32 = P2 at *
        omega
      · exact h
    have h1 : (i : Int) < 40 := by omega
    have h2 : (0 : Int) ≤ i := by omega
    have hiw : IntKind.i64.wrap ((i : Int) + 1) = i + 1 := wrapI _ (by omega) (by omega)
    have hdl := dg_lt (B := 256) (by decide) T i
    have ca := K.out.a.cell (show i < 40 by omega)
    rw [show zf T i i = dg 256 T i by unfold zf; rw [if_neg (by omega)]] at ca
    have fa := K.out.a.fz i
    have I4 := hide (show i < 40 by omega)
    by_cases hfull : dg 256 T i = 255
    · have HN := hide (full_next T i HF.out hfull)
      have c1 : (wr.setCell ⟨g4, i, none⟩ (.int .i64 256)).cell? ⟨g4, i, none⟩ = some (.int .i64 256) := (World.rowIs.set K.out.a i (.int .i64 256)).cell I4.out |>.trans (by simp)
      have f1 : (wr.setCell ⟨g4, i, none⟩ (.int .i64 256)).frozen? ⟨g4, i, none⟩ = false := (World.rowIs.set K.out.a i (.int .i64 256)).frozen i
      have K2 : Hid (Wk w ((wr.setCell ⟨g4, i, none⟩ (.int .i64 256)).setCell ⟨g4, i, none⟩ (.int .i64 ((0 : Nat) : Int))) g4 (zf T (i + 1))) := (K.out.set i 256 (fun k _ => rfl)).set i 0 (fun k _ => by
        rw [← zf_next T i k]
        by_cases e : k = i <;> simp [e])
      rw [hfull] at ca
      have w1 : IntKind.i64.wrap (((255 : Nat) : Int) + 1) = 256 := wrapI _ (by omega) (by omega)
      clear hfull hdl hi HF
      go_wp2
      exact ⟨⟨i + 1, by go_num, K2, HN⟩, by simp [intOf]; omega⟩
    · have hd2 : dg 256 T i < 255 := by omega
      have K2 := hide (K.out.set i (dg 256 T i + 1) (f' := dg 256 (T + 1)) (fun k _ => by
        rw [← succ_dg T i k HF.out hd2]
        rfl))
      generalize dg 256 T i = x at *
      have w1 : IntKind.i64.wrap ((x : Int) + 1) = ((x + 1 : Nat) : Int) := by rw [wrapI _ (by omega) (by omega)]; omega
      have c1 : (wr.setCell ⟨g4, i, none⟩ (.int .i64 ((x + 1 : Nat) : Int))).cell? ⟨g4, i, none⟩ = some (.int .i64 ((x + 1 : Nat) : Int)) := (World.rowIs.set K.out.a i (.int .i64 ((x + 1 : Nat) : Int))).cell I4.out |>.trans (by simp)
      have t1 : ((x + 1 : Nat) : Int) < 256 := by omega
      obtain ⟨y, hy⟩ : ∃ y, y = x + 1 := ⟨_, rfl⟩
      rw [← hy] at w1 c1 t1 K2
      clear hfull hd2 hdl hi HF hy
      go_upto_region 10 with fail
      generalize wr.setCell ⟨g4, i, none⟩ (.int .i64 (y : Int)) = W3 at *
      have RR : Hid (Rc w W3 [(g4, 180, bn (T + 1)), (w.heap.size, 180, bn 0)]) := by
        refine ⟨fun p hp => ?_, K2.out.bel⟩
        simp only [List.mem_cons, List.not_mem_nil, or_false] at hp
        rcases hp with rfl | rfl
        · exact K2.out.a.heap
        · exact K2.out.r
      have hG4 := hide K2.out.lt
      clear K K2 c1 ca fa t1 w1 h1 h2 hiw I4
      have J5 : Hid (Rc w ((((W3.alloc (.cells (bn 0) 180)).alloc (.cells (bn 0) 180)).setRow W3.heap.size (bn 0)).setRow (W3.heap.size + 1) (bn 0)) [(W3.heap.size + 1, 180, bn 0), (W3.heap.size, 180, bn 0), (g4, 180, bn (T + 1)), (w.heap.size, 180, bn 0)]) := by
        obtain ⟨e1, e2, b⟩ := blk2w W3 180 (bn 0) (bn 0) (bn 0)
        exact ((RR.out.next b).cons e1).cons e2
      have hs3 : Hid (w.heap.size ≤ W3.heap.size) := RR.out.bel.size
      go_upto_region 11 with (first | refine wpList_buildA AN rfl rfl ?_ | refine wpList_allocA AN rfl rfl ?_ | refine wpList_storeA AN rfl _ _ rfl _ (bn 0) (bn_size _) (bn_one _) rfl rfl (bn 0) (bn_size _) 180 (blk2x W3 (.cells (bn 0) 180) (.cells (bn 0) 180)).1 ?_ | refine wpList_storeA AN rfl _ _ rfl _ (bn 0) (bn_size _) (bn_one _) rfl rfl (bn 0) (bn_size _) 180 (blk2s W3 (.cells (bn 0) 180) (.cells (bn 0) 180) (bn 0)) ?_)
      try simp only [Act.put, List.setIfInBounds_toArray, List.set_cons_succ, List.set_cons_zero, hsz]
      generalize (((W3.alloc (.cells (bn 0) 180)).alloc (.cells (bn 0) 180)).setRow W3.heap.size (bn 0)).setRow (W3.heap.size + 1) (bn 0) = W5 at *
      have hg : Hid (w.heap.size ≤ W3.heap.size ∧ g4 < W3.heap.size ∧ w.heap.size < g4) := ⟨hs3.out, lt_heap (RR.out.at (g := g4) (t := 180) (c := bn (T + 1)) (by simp)), hG4.out⟩
      generalize W3.heap.size = g7 at *
      clear RR hs3 hG4
      obtain ⟨D, hD⟩ : ∃ D, D = T + 1 := ⟨_, rfl⟩
      rw [← hD] at J5
      have HD : Hid (2 ≤ D ∧ 2 * D < MB) := by
        have h3 := HT.out
        refine ⟨by omega, Nat.lt_of_le_of_lt ?_ MB_big⟩
        rw [hD]
        generalize Lm = lm at *
        omega
      have HD0 := hide hD
      clear hD
      go_wp2
      go_loopw [9] (fun d wr => ∃ k : Nat, k ≤ 257 ∧ d = .int .i64 ((k : Int) - 1) ∧ Hid (Rc w wr [(g7 + 1, 180, bn (A257 k % D)), (g7, 180, bn (A257 k / D)), (g4, 180, bn D), (w.heap.size, 180, bn 0)])) (fun d _ => (1 + intOf d).toNat)
      case atStart => exact ⟨257, by omega, rfl, by rw [show A257 257 = 0 from rfl, Nat.zero_mod, Nat.zero_div]; exact J5⟩
      case round =>
        clear J5
        obtain ⟨k, hk, rfl, J⟩ := hrel
        rcases k with _ | k
        · have t1 : ¬ (0 : Int) ≤ ((0 : Nat) : Int) - 1 := by omega
          rw [show A257 0 = 2 ^ 256 from rfl] at J
          have HE2 := hide (show 2 ^ 256 / D = 2 ^ 256 / (T + 1) by rw [HD0.out])
          generalize 2 ^ 256 % D = R at *
          generalize 2 ^ 256 / D = Q at *
          have r7 := hide (J.out.at (g := g7) (t := 180) (c := bn Q) (by simp))
          have r0 := hide (J.out.at (g := w.heap.size) (t := 180) (c := bn 0) (by simp))
          go_wp2_with (first | refine wpList_loadA AN rfl _ rfl g7 rfl (bn Q) (bn_size _) 180 r7.out ?_ | refine wpList_storeA AN rfl _ _ rfl _ (bn Q) (bn_size _) (bn_one _) rfl rfl (bn 0) (bn_size 0) 180 r0.out ?_)
          exact bodyPost_ret (v := .tuple #[.agg (bn Q), .bool true]) (resA2 AN Tryz.results88 _ _ w.heap.size 180 (bn Q) (bn_size _) rfl (setRow_heap _ _ _ _ _ _ r0.out) _ (by rfl)) rfl ⟨by rw [HE2.out], below_setRow J.out.bel (Nat.le_refl _) _⟩
        · have e1 : ((k + 1 : Nat) : Int) - 1 = k := by omega
          rw [e1]
          have k0 : (0 : Int) ≤ k := by omega
          have hkw : IntKind.i64.wrap ((k : Int) - 1) = k - 1 := wrapI _ (by omega) (by omega)
          obtain ⟨c, hc⟩ : ∃ c, c = (if k = 256 then 1 else 0) := ⟨_, rfl⟩
          have hc1 : c ≤ 1 := by rw [hc]; split <;> omega
          have hst := A_step k (by omega)
          rw [← hc] at hst
          obtain ⟨a1, a2⟩ := A_div (A257 (k + 1)) D c (by have := HD.out; omega) hc1
          rw [← hst] at a1 a2
          have hR := Nat.mod_lt (A257 (k + 1)) (show 0 < D by have := HD.out; omega)
          obtain ⟨kb, hkb⟩ : ∃ kb, ((k : Int) == 256) = kb := ⟨_, rfl⟩
          have KEY : Hid ((k = 256 ∧ kb = true ∧ c = 1) ∨ (kb = false ∧ c = 0)) := by
            rw [← hkb]
            by_cases e : k = 256
            · exact .inl ⟨e, by simp [e], by rw [hc, if_pos e]⟩
            · exact .inr ⟨by rw [beq_eq_false_iff_ne]; omega, by rw [hc, if_neg e]⟩
          have A1 := hide a1
          have A2 := hide a2
          have KK := hide (show k ≤ 257 by omega)
          generalize A257 (k + 1) % D = R at *
          generalize A257 (k + 1) / D = Q at *
          have HT1 : Hid (∀ W, Calls Tryz.prog 179 #[.agg (bn R), .int .i64 2] W fun e w' => e = .returned (.agg (bn (2 * R))) ∧ Below W.heap.size W w') := fun W => by
            rw [Nat.mul_comm 2 R]
            exact times_any R 2 (by decide) W
          have HT2 : Hid (∀ W, Calls Tryz.prog 179 #[.agg (bn Q), .int .i64 2] W fun e w' => e = .returned (.agg (bn (2 * Q))) ∧ Below W.heap.size W w') := fun W => by
            rw [Nat.mul_comm 2 Q]
            exact times_any Q 2 (by decide) W
          have HX : Hid (2 * R + c < MB ∧ D < MB) := by
            have h3 := HD.out
            generalize MB = mb at *
            exact ⟨by omega, by omega⟩
          have HLs := hide fun W => less_any (2 * R + c) D HX.out.1 HX.out.2 W
          clear hk e1 hc hst a1 a2 hR hc1
          have r8 := hide (J.out.at (g := g7 + 1) (t := 180) (c := bn R) (by simp))
          go_upto_region 15 with (first | refine wpList_loadA AN rfl _ rfl (g7 + 1) rfl (bn R) (bn_size _) 180 r8.out ?_ | (go_at_call 179; refine (HT1.out _).mono ?_; rintro e w6 ⟨rfl, be⟩; have J6 := hide (J.out.next be); have q8 := hide (J6.out.at (g := g7 + 1) (t := 180) (c := bn R) (by simp)); clear be) | refine wpList_storeA AN rfl _ _ rfl _ (bn (2 * R)) (bn_size _) (bn_one _) rfl rfl (bn R) (bn_size _) 180 q8.out ?_)
          have J7 : Hid (Rc w (w6.setRow (g7 + 1) (bn (2 * R))) [(g7 + 1, 180, bn (2 * R)), (g7, 180, bn Q), (g4, 180, bn D), (w.heap.size, 180, bn 0)]) := Rc.put J6.out (g7 + 1) 180 (bn (2 * R)) ⟨bn R, by simp⟩ (by have := hg.out; omega) (fun p hp => by
            have hg' := hg.out
            simp only [List.mem_cons, List.not_mem_nil, or_false] at hp
            rcases hp with rfl | rfl | rfl | rfl
            · exact .inl rfl
            · exact .inr ⟨by simp, by simp <;> omega⟩
            · exact .inr ⟨by simp, by simp <;> omega⟩
            · exact .inr ⟨by simp, by simp <;> omega⟩)
          generalize w6.setRow (g7 + 1) (bn (2 * R)) = W7 at *
          clear J J6 r8 q8 HT1
          go_upto_if 42 with fail
          clear hkb
          go_cut [] from 43 to 46 (fun wx => Hid (Rc w wx [(g7 + 1, 180, bn (2 * R + c)), (g7, 180, bn Q), (g4, 180, bn D), (w.heap.size, 180, bn 0)]))
          case first =>
            rcases KEY.out with ⟨hk, hkb, hc⟩ | ⟨hkb, hc⟩
            · subst hk hkb hc
              have c0 := (Ni.of_heap (f := dg 256 (2 * R)) (J7.out.at (g := g7 + 1) (t := 180) (c := bn (2 * R)) (by simp))).cell (show 0 < 40 by omega)
              have f0 := (Ni.of_heap (f := dg 256 (2 * R)) (J7.out.at (g := g7 + 1) (t := 180) (c := bn (2 * R)) (by simp))).fz 0
              have J8 : Hid (Rc w (W7.setCell ⟨g7 + 1, 0, none⟩ (.int .i64 ((dg 256 (2 * R) 0 + 1 : Nat) : Int))) [(g7 + 1, 180, bn (2 * R + 1)), (g7, 180, bn Q), (g4, 180, bn D), (w.heap.size, 180, bn 0)]) := Rc.inc J7.out (by simp) (by have := hg.out; omega) (fun p hp => by
            have hg' := hg.out
            simp only [List.mem_cons, List.not_mem_nil, or_false] at hp
            rcases hp with rfl | rfl | rfl | rfl
            · exact .inl rfl
            · exact .inr ⟨by simp, by simp <;> omega⟩
            · exact .inr ⟨by simp, by simp <;> omega⟩
            · exact .inr ⟨by simp, by simp <;> omega⟩)
              have hob := (odd_byte R).1
              generalize dg 256 (2 * R) 0 = x0 at *
              have w1 : IntKind.i64.wrap ((x0 : Int) + 1) = ((x0 + 1 : Nat) : Int) := by rw [wrapI _ (by omega) (by omega)]; omega
              generalize x0 + 1 = x1 at *
              clear hob
              go_wp2_with fail
              go_meet
              exact J8
            · subst hkb hc
              go_wp2_with fail
              go_meet
              exact J7
          have J8 := hcut
          generalize wc = W8 at *
          clear J7 KEY
          generalize 2 * R + c = X at *
          have r7 := hide (J8.out.at (g := g7) (t := 180) (c := bn Q) (by simp))
          go_upto_region 18 with (first | refine wpList_loadA AN rfl _ rfl g7 rfl (bn Q) (bn_size _) 180 r7.out ?_ | (go_at_call 179; refine (HT2.out _).mono ?_; rintro e w9 ⟨rfl, be⟩; have J9 := hide (J8.out.next be); have q7 := hide (J9.out.at (g := g7) (t := 180) (c := bn Q) (by simp)); clear be) | refine wpList_storeA AN rfl _ _ rfl _ (bn (2 * Q)) (bn_size _) (bn_one _) rfl rfl (bn Q) (bn_size _) 180 q7.out ?_)
          have J10 : Hid (Rc w (w9.setRow g7 (bn (2 * Q))) [(g7 + 1, 180, bn X), (g7, 180, bn (2 * Q)), (g4, 180, bn D), (w.heap.size, 180, bn 0)]) := Rc.put J9.out g7 180 (bn (2 * Q)) ⟨bn Q, by simp⟩ (by have := hg.out; omega) (fun p hp => by
            have hg' := hg.out
            simp only [List.mem_cons, List.not_mem_nil, or_false] at hp
            rcases hp with rfl | rfl | rfl | rfl
            · exact .inr ⟨by simp, by simp <;> omega⟩
            · exact .inl rfl
            · exact .inr ⟨by simp, by simp <;> omega⟩
            · exact .inr ⟨by simp, by simp <;> omega⟩)
          generalize w9.setRow g7 (bn (2 * Q)) = W10 at *
          clear J8 J9 r7 q7 HT2
          have r8 := hide (J10.out.at (g := g7 + 1) (t := 180) (c := bn X) (by simp))
          have r4 := hide (J10.out.at (g := g4) (t := 180) (c := bn D) (by simp))
          by_cases hlt : X < D
          · obtain ⟨n1, n2⟩ := A1.out hlt
            rw [decide_eq_true hlt] at HLs
            have HNN := hide (And.intro n1 n2)
            clear n1 n2 hlt
            go_wp2_with (first | refine wpList_loadA AN rfl _ rfl (g7 + 1) rfl (bn X) (bn_size _) 180 r8.out ?_ | refine wpList_loadA AN rfl _ rfl g4 rfl (bn D) (bn_size _) 180 r4.out ?_ | (go_at_call 180; refine (HLs.out _).mono ?_; rintro e w11 ⟨rfl, be⟩; have J11 := hide (J10.out.next be); clear be))
            exact ⟨⟨k, KK.out, rfl, by rw [HNN.out.1, HNN.out.2]; exact J11⟩, by simp [intOf]; omega⟩
          · obtain ⟨n1, n2⟩ := A2.out hlt
            rw [decide_eq_false hlt] at HLs
            have HMi := hide fun W => minus_any D (X - D) W
            rw [Nat.add_sub_cancel' (Nat.le_of_not_lt hlt)] at HMi
            have HNN := hide (And.intro n1 n2)
            clear n1 n2 hlt
            generalize X - D = Y at *
            go_upto_region 20 with (first | refine wpList_loadA AN rfl _ rfl (g7 + 1) rfl (bn X) (bn_size _) 180 r8.out ?_ | refine wpList_loadA AN rfl _ rfl g4 rfl (bn D) (bn_size _) 180 r4.out ?_ | (go_at_call 180; refine (HLs.out _).mono ?_; rintro e w11 ⟨rfl, be⟩; have J11 := hide (J10.out.next be); have s8 := hide (J11.out.at (g := g7 + 1) (t := 180) (c := bn X) (by simp)); have s4 := hide (J11.out.at (g := g4) (t := 180) (c := bn D) (by simp)); clear be) | refine wpList_loadA AN rfl _ rfl (g7 + 1) rfl (bn X) (bn_size _) 180 s8.out ?_ | refine wpList_loadA AN rfl _ rfl g4 rfl (bn D) (bn_size _) 180 s4.out ?_ | (go_at_call 181; refine (HMi.out _).mono ?_; rintro e w12 ⟨rfl, be⟩; have J12 := hide (J11.out.next be); have t8 := hide (J12.out.at (g := g7 + 1) (t := 180) (c := bn X) (by simp)); clear be) | refine wpList_storeA AN rfl _ _ rfl _ (bn Y) (bn_size _) (bn_one _) rfl rfl (bn X) (bn_size _) 180 t8.out ?_)
            have J13 : Hid (Rc w (w12.setRow (g7 + 1) (bn Y)) [(g7 + 1, 180, bn Y), (g7, 180, bn (2 * Q)), (g4, 180, bn D), (w.heap.size, 180, bn 0)]) := Rc.put J12.out (g7 + 1) 180 (bn Y) ⟨bn X, by simp⟩ (by have := hg.out; omega) (fun p hp => by
            have hg' := hg.out
            simp only [List.mem_cons, List.not_mem_nil, or_false] at hp
            rcases hp with rfl | rfl | rfl | rfl
            · exact .inl rfl
            · exact .inr ⟨by simp, by simp <;> omega⟩
            · exact .inr ⟨by simp, by simp <;> omega⟩
            · exact .inr ⟨by simp, by simp <;> omega⟩)
            generalize w12.setRow (g7 + 1) (bn Y) = W13 at *
            clear J10 J11 J12 r8 r4 s8 s4 t8
            have c0 := (Ni.of_heap (f := dg 256 (2 * Q)) (J13.out.at (g := g7) (t := 180) (c := bn (2 * Q)) (by simp))).cell (show 0 < 40 by omega)
            have f0 := (Ni.of_heap (f := dg 256 (2 * Q)) (J13.out.at (g := g7) (t := 180) (c := bn (2 * Q)) (by simp))).fz 0
            have J14 : Hid (Rc w (W13.setCell ⟨g7, 0, none⟩ (.int .i64 ((dg 256 (2 * Q) 0 + 1 : Nat) : Int))) [(g7 + 1, 180, bn Y), (g7, 180, bn (2 * Q + 1)), (g4, 180, bn D), (w.heap.size, 180, bn 0)]) := Rc.inc J13.out (by simp) (by have := hg.out; omega) (fun p hp => by
            have hg' := hg.out
            simp only [List.mem_cons, List.not_mem_nil, or_false] at hp
            rcases hp with rfl | rfl | rfl | rfl
            · exact .inr ⟨by simp, by simp <;> omega⟩
            · exact .inl rfl
            · exact .inr ⟨by simp, by simp <;> omega⟩
            · exact .inr ⟨by simp, by simp <;> omega⟩)
            have hob := (odd_byte Q).1
            generalize dg 256 (2 * Q) 0 = x0 at *
            have w1 : IntKind.i64.wrap ((x0 : Int) + 1) = ((x0 + 1 : Nat) : Int) := by rw [wrapI _ (by omega) (by omega)]; omega
            generalize x0 + 1 = x1 at *
            clear hob
            go_wp2
            exact ⟨⟨k, KK.out, rfl, by rw [HNN.out.1, HNN.out.2]; exact J14⟩, by simp [intOf]; omega⟩
end
end Go.Proofs.YtofddbjnncgmlaaGreatDoor
namespace Go.Proofs.YtofddbjnncgmlaaGreatDoor
open Go.RowKit
open Go.Deep
/-- A quotient by a small number, digit by digit from the highest on. -/
theorem over_step (m n i : Nat) (hn : 0 < n) : (m / 256 ^ (i + 1) % n * 256 + dg 256 m i) / n = dg 256 (m / n) i ∧ (m / 256 ^ (i + 1) % n * 256 + dg 256 m i) % n = m / 256 ^ i % n := by
  have e := div_byte_step 256 m i
  have hd := dg_lt (B := 256) (by decide) m i
  have h1 := Nat.div_add_mod (m / 256 ^ (i + 1)) n
  have h2 := Nat.mod_lt (m / 256 ^ (i + 1)) hn
  have e3 : dg 256 (m / n) i = m / 256 ^ i / n % 256 := by
    unfold dg
    rw [Nat.div_div_eq_div_mul, Nat.div_div_eq_div_mul, Nat.mul_comm]
  rw [e3, e]
  generalize dg 256 m i = d at *
  generalize m / 256 ^ (i + 1) = T at *
  generalize T % n = r at *
  generalize T / n = q at *
  have e4 : 256 * T + d = n * (256 * q) + (r * 256 + d) := by
    rw [← h1, Nat.mul_add, Nat.mul_left_comm]
    omega
  rw [e4, Nat.mul_add_div hn]
  have h5 : (r * 256 + d) / n < 256 := by
    apply Nat.div_lt_of_lt_mul
    have := Nat.mul_le_mul_right 256 (show r + 1 ≤ n from h2)
    omega
  refine ⟨?_, (Nat.mul_add_mod _ _ _).symm⟩
  generalize (r * 256 + d) / n = c at *
  omega
/-- The digits from i on of one number, those below of another. -/
def hixd (x y i j : Nat) : Nat := if i ≤ j then dg 256 x j else dg 256 y j
theorem hixd_step (x y i j : Nat) : (if j = i then dg 256 x i else hixd x y (i + 1) j) = hixd x y i j := by
  unfold hixd
  by_cases e : j = i
  · rw [if_pos e, if_pos (by omega), e]
  · rw [if_neg e]
    by_cases e2 : i + 1 ≤ j
    · rw [if_pos e2, if_pos (by omega)]
    · rw [if_neg e2, if_neg (by omega)]
section
set_option maxRecDepth 10000
set_option maxHeartbeats 2000000
theorem over_any (m n : Nat) (hm : m < MB) (h0 : 0 < n) (hn : n ≤ 1000000) (w : World) : Calls Tryz.prog 301 #[.agg (bn m), .int .i64 (n : Int)] w fun e w' => e = .returned (.agg (bn (m / n))) ∧ Below w.heap.size w w' := by
  have J0 := hide ((Bi.start w m).congr (f' := hixd (m / n) m 40) (fun j hj => by rw [hixd, if_neg (by omega)]))
  have HN := hide (And.intro h0 hn)
  have H40 : Hid (m / 256 ^ 40 % n = 0) := by
    show m / MB % n = 0
    rw [Nat.div_eq_of_lt hm, Nat.zero_mod]
  have n0 : ((n : Int) == 0) = false := by simp; omega
  have n1 : ¬ (n : Int) = 0 := by omega
  clear hm h0 hn
  go_enter Tryz.func301, Tryz.ntmps301
  go_wp2_with (first | refine wpList_boxA rfl _ rfl (bn m) rfl ?_ | refine wpList_allocA AN rfl rfl ?_)
  generalize (w.alloc (.cells (bn m) 180)).alloc (.cells (bn 0) 180) = W0 at *
  go_loopw [5, 6] (fun c d wr => ∃ i : Nat, i ≤ 40 ∧ c = .int .i64 ((m / 256 ^ i % n : Nat) : Int) ∧ d = .int .i64 ((i : Int) - 1) ∧ Hid (Bi w wr (hixd (m / n) m i))) (fun _ d _ => (1 + intOf d).toNat)
  case atStart => exact ⟨40, by omega, by rw [H40.out]; rfl, rfl, J0⟩
  case round =>
    clear J0 H40
    obtain ⟨i, hi, rfl, rfl, J⟩ := hrel
    rcases i with _ | i
    · have hneg : ¬ (0 : Int) ≤ ((0 : Nat) : Int) - 1 := by omega
      have H2 := (J.out.a.congr (f' := dg 256 (m / n)) (fun j _ => by rw [hixd, if_pos (by omega)])).heap
      generalize m / 256 ^ 0 % n = c at *
      go_wp2_with (first | refine wpList_loadA AN rfl _ rfl _ rfl (bn (m / n)) (bn_size _) 180 H2 ?_ | refine wpList_storeA AN rfl _ _ rfl _ (bn (m / n)) (bn_size _) (bn_one _) rfl rfl (bn 0) (bn_size 0) 180 J.out.r ?_)
      exact bodyPost_ret (v := .agg (bn (m / n))) (resA AN Tryz.results301 _ _ (w.heap.size + 1) 180 (bn (m / n)) (bn_size _) rfl (setRow_heap _ _ _ _ _ _ J.out.r)) rfl ⟨rfl, below_setRow J.out.bel (by omega) _⟩
    · have e1 : ((i + 1 : Nat) : Int) - 1 = i := by omega
      rw [e1]
      have hi4 : (i : Int) < 40 := by omega
      have i0 : (0 : Int) ≤ i := by omega
      have ca := J.out.a.cell (show i < 40 by omega)
      rw [show hixd (m / n) m (i + 1) i = dg 256 m i by rw [hixd, if_neg (by omega)]] at ca
      have fa := J.out.a.fz i
      have HI := hide (show i ≤ 40 by omega)
      have hiw : IntKind.i64.wrap ((i : Int) - 1) = i - 1 := wrapI _ (by omega) (by omega)
      have ME := hide (show (1 + ((i : Int) - 1)).toNat < (1 + (i : Int)).toNat by omega)
      obtain ⟨hn0, hn⟩ := HN.out
      obtain ⟨t1, t2⟩ := over_step m n i hn0
      have hd := dg_lt (B := 256) (by decide) m i
      have hr := Nat.mod_lt (m / 256 ^ (i + 1)) hn0
      have hx := dg_lt (B := 256) (by decide) (m / n) i
      have HR : Hid (∀ j, j < 40 → (if j = i then dg 256 (m / n) i else hixd (m / n) m (i + 1) j) = hixd (m / n) m i j) := fun j _ => hixd_step (m / n) m i j
      obtain ⟨x, hxe⟩ : ∃ x, x = dg 256 (m / n) i := ⟨_, rfl⟩
      rw [← hxe] at t1 hx HR
      obtain ⟨d0, hd0⟩ : ∃ x, x = dg 256 m i := ⟨_, rfl⟩
      rw [← hd0] at t1 t2 hd ca
      obtain ⟨r1, hr1⟩ : ∃ x, x = m / 256 ^ i % n := ⟨_, rfl⟩
      rw [← hr1] at t2
      have HR1 := hide hr1
      generalize m / 256 ^ (i + 1) % n = r0 at *
      clear hxe hd0 hr1 e1 hi
      have w1 : IntKind.i64.wrap ((r0 : Int) * 256) = ((r0 * 256 : Nat) : Int) := by rw [wrapI _ (by omega) (by omega)]; omega
      have w2 : IntKind.i64.wrap (((r0 * 256 : Nat) : Int) + (d0 : Int)) = ((r0 * 256 + d0 : Nat) : Int) := by rw [wrapI _ (by omega) (by omega)]; omega
      obtain ⟨s, hs⟩ : ∃ s, s = r0 * 256 + d0 := ⟨_, rfl⟩
      rw [← hs] at w2 t1 t2
      obtain ⟨p, hp⟩ : ∃ p, p = r0 * 256 := ⟨_, rfl⟩
      rw [← hp] at w1 w2
      have hr1l : r1 < n := by rw [← t2]; exact Nat.mod_lt _ hn0
      have v6 : IntKind.i64.wrap (r1 : Int) = (r1 : Int) := wrapI _ (by omega) (by omega)
      have v8 : IntKind.i64.wrap (x : Int) = (x : Int) := wrapI _ (by omega) (by omega)
      have q1 : r1 < 9223372036854775808 := by omega
      have q2 : x < 9223372036854775808 := by omega
      have v1 : (s : Int) % (n : Int) = (r1 : Int) := by rw [← t2]; rfl
      have v3 : (s : Int) / (n : Int) = (x : Int) := by rw [← t1]; rfl
      have v2 : Int.tmod (s : Int) (n : Int) = (r1 : Int) := by rw [Int.tmod_eq_emod_of_nonneg (Int.natCast_nonneg _)]; exact v1
      have v4 : Int.tdiv (s : Int) (n : Int) = (x : Int) := by rw [Int.tdiv_eq_ediv_of_nonneg (Int.natCast_nonneg _)]; exact v3
      have v5 := w64n r1 q1
      have v7 := w64n x q2
      clear hn0 hn hd hr hx t1 t2 hs hp hr1l q1 q2
      go_wp2
      exact ⟨⟨i, HI.out, by rw [← HR1.out], rfl, hide (J.out.set i x HR.out)⟩, by simpa [intOf] using ME.out⟩
/-- A byte of a number, out of its word. -/
theorem dg8 (m i : Nat) : wd m (i / 8) / 2 ^ (8 * (i % 8)) % 256 = dg 256 m i := by
  unfold wd dg
  have e : 256 ^ i = 18446744073709551616 ^ (i / 8) * 2 ^ (8 * (i % 8)) := by
    rw [show (18446744073709551616 : Nat) = 2 ^ 64 from rfl, show (256 : Nat) = 2 ^ 8 from rfl, ← Nat.pow_mul, ← Nat.pow_mul, ← Nat.pow_add]
    congr 1
    omega
  rw [e, ← Nat.div_div_eq_div_mul]
  generalize m / 18446744073709551616 ^ (i / 8) = X
  have h8 : (18446744073709551616 : Nat) = 2 ^ (8 * (i % 8)) * (256 * 2 ^ (56 - 8 * (i % 8))) := by
    rw [show (256 : Nat) = 2 ^ 8 from rfl, ← Nat.pow_add, ← Nat.pow_add, show 8 * (i % 8) + (8 + (56 - 8 * (i % 8))) = 64 by omega]
  rw [h8, Nat.mod_mul_right_div_self, Nat.mod_mul_right_mod]
end
end Go.Proofs.YtofddbjnncgmlaaGreatDoor
