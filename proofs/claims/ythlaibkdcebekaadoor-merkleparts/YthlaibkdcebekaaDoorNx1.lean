/- Trees in parts: what is told of a list and marks, and what is read; the mathematics. Lists of marks in memory; the contract of the document's meant. The contract of the statements' awake. The contracts of Branch and of the document's Branch. A list appended to another one; the contracts of the document's Root and of the library's Clone. -/
import Derived.Test.YthlaibkdcebekaaDoorMw
namespace Go.Proofs.YthlaibkdcebekaaDoor
/-- The level above a level of marks. -/
def upM (l : List Bool) : List Bool := (List.range ((l.length + 1) / 2)).map fun i => l.getD (2 * i) false || l.getD (2 * i + 1) false
theorem upM_len (l : List Bool) : (upM l).length = (l.length + 1) / 2 := by simp [upM]
theorem upM_at (l : List Bool) (p : Nat) : (upM l).getD p false = (l.getD (2 * p) false || l.getD (2 * p + 1) false) := by
  by_cases h : p < (l.length + 1) / 2
  · simp [upM, List.getD_eq_getElem?_getD, h]
  · have h1 : l.getD (2 * p) false = false := by rw [List.getD_eq_getElem?_getD, List.getElem?_eq_none (by omega)]; rfl
    have h2 : l.getD (2 * p + 1) false = false := by rw [List.getD_eq_getElem?_getD, List.getElem?_eq_none (by omega)]; rfl
    rw [h1, h2, List.getD_eq_getElem?_getD, List.getElem?_eq_none (by rw [upM_len]; omega)]
    rfl
/-- The levels of marks. -/
def mv (ms : List Bool) : Nat → List Bool
  | 0 => ms
  | k + 1 => upM (mv ms k)
/-- Is something meant beneath a position? -/
def mn (ms : List Bool) (k p : Nat) : Bool := (List.range (2 ^ k)).any fun i => ms.getD (p * 2 ^ k + i) false
theorem mn_step (ms : List Bool) (k p : Nat) : mn ms (k + 1) p = (mn ms k (2 * p) || mn ms k (2 * p + 1)) := by
  unfold mn
  rw [Bool.eq_iff_iff, Bool.or_eq_true, List.any_eq_true, List.any_eq_true, List.any_eq_true]
  have e : p * 2 ^ (k + 1) = 2 * p * 2 ^ k := by rw [Nat.pow_succ', ← Nat.mul_assoc, Nat.mul_comm p 2]
  have e2 : (2 * p + 1) * 2 ^ k = 2 * p * 2 ^ k + 2 ^ k := by rw [Nat.add_mul, Nat.one_mul]
  have e3 : 2 ^ (k + 1) = 2 ^ k + 2 ^ k := by rw [Nat.pow_succ]; omega
  rw [e, e2, e3]
  constructor
  · rintro ⟨i, hi, h⟩
    rw [List.mem_range] at hi
    by_cases hl : i < 2 ^ k
    · exact .inl ⟨i, List.mem_range.2 hl, h⟩
    · refine .inr ⟨i - 2 ^ k, List.mem_range.2 (by omega), ?_⟩
      rw [show 2 * p * 2 ^ k + 2 ^ k + (i - 2 ^ k) = 2 * p * 2 ^ k + i by omega]
      exact h
  · rintro (⟨i, hi, h⟩ | ⟨i, hi, h⟩)
    · exact ⟨i, List.mem_range.2 (by have := List.mem_range.1 hi; omega), h⟩
    · refine ⟨2 ^ k + i, List.mem_range.2 (by have := List.mem_range.1 hi; omega), ?_⟩
      rw [← Nat.add_assoc]
      exact h
theorem mv_mn (ms : List Bool) : ∀ k p, (mv ms k).getD p false = mn ms k p
  | 0, p => by simp [mv, mn, List.range_succ]
  | k + 1, p => by rw [mv, upM_at, mv_mn ms k, mv_mn ms k, mn_step]
theorem mv_len (ms : List Bool) (L : List (List UInt8)) (h : ms.length = L.length) : ∀ k, (mv ms k).length = (lv L k).length
  | 0 => h
  | k + 1 => by rw [mv, upM_len, mv_len ms L h k, lv, nxt_len]
/-- What is told of a position, and of all beneath it. -/
def tl (ms : List Bool) (L : List (List UInt8)) : Nat → Nat → List Bool × List (List UInt8)
  | 0, p => ([mn ms 0 p], [ia (lv L 0) p])
  | k + 1, p =>
    if mn ms (k + 1) p then
      (true :: ((tl ms L k (2 * p)).1 ++ if 2 * p + 1 < (lv L k).length then (tl ms L k (2 * p + 1)).1 else []),
        (tl ms L k (2 * p)).2 ++ if 2 * p + 1 < (lv L k).length then (tl ms L k (2 * p + 1)).2 else [])
    else ([false], [ia (lv L (k + 1)) p])
/-- What a tree in parts reads as, from a position down: the id; what is left of its bits and ids; the meant places and ids. -/
structure Rd where
  id : List UInt8
  bits : List Bool
  ids : List (List UInt8)
  places : List Nat
  meant : List (List UInt8)
def rd (n : Nat) : Nat → Nat → List Bool → List (List UInt8) → Option Rd
  | _, _, [], _ => none
  | 0, _, _ :: _, [] => none
  | 0, p, b :: bs, x :: is => some ⟨x, bs, is, if b then [p] else [], if b then [x] else []⟩
  | _ + 1, _, false :: _, [] => none
  | _ + 1, _, false :: bs, x :: is => some ⟨x, bs, is, [], []⟩
  | k + 1, p, true :: bs, is =>
    match rd n k (2 * p) bs is with
    | none => none
    | some a =>
      if 2 * p + 1 < wdt n k then
        match rd n k (2 * p + 1) a.bits a.ids with
        | none => none
        | some b => if a.id = b.id then none else some ⟨pr a.id b.id, b.bits, b.ids, a.places ++ b.places, a.meant ++ b.meant⟩
      else some ⟨pr a.id a.id, a.bits, a.ids, a.places, a.meant⟩
end Go.Proofs.YthlaibkdcebekaaDoor
namespace Go.Proofs.YthlaibkdcebekaaDoor
open Go.RowKit
open Go.Deep
/-- A slice that holds marks. -/
def LB (w : World) (v : Value) (ms : List Bool) : Prop := ∃ ao cap, v = .slice ao ms.length cap ∧ ms.length ≤ cap ∧ ∀ i, i < ms.length → ∃ g off, ao = some ⟨g, off, none⟩ ∧ g < w.heap.size ∧ w.cell? ⟨g, off + i, none⟩ = some (.bool (ms.getD i false))
theorem LB.below {w W : World} {v : Value} {ms : List Bool} (h : LB w v ms) (hb : Below w.heap.size w W) : LB W v ms := by
  obtain ⟨ao, cap, rfl, h2, h3⟩ := h
  refine ⟨ao, cap, rfl, h2, fun i hi => ?_⟩
  obtain ⟨g, off, e, hg, hr⟩ := h3 i hi
  exact ⟨g, off, e, Nat.lt_of_lt_of_le hg hb.size, (hb.cell (p := ⟨g, off + i, none⟩) hg).trans hr⟩
theorem LB.form {w : World} {v : Value} {ms : List Bool} (h : LB w v ms) : ∃ ao cap, v = .slice ao ms.length cap ∧ ms.length ≤ cap := by
  obtain ⟨ao, cap, e, h2, _⟩ := h
  exact ⟨ao, cap, e, h2⟩
theorem LB.base {w : World} {ao : Option Addr} {n cap : Nat} {ms : List Bool} (h : LB w (.slice ao n cap) ms) (h0 : 0 < ms.length) : ∃ g off, ao = some ⟨g, off, none⟩ := by
  obtain ⟨_, _, e, _, h3⟩ := h
  injection e with e1
  obtain ⟨g, off, e2, _⟩ := h3 0 h0
  exact ⟨g, off, e1.trans e2⟩
theorem LB.cell {w : World} {g off n cap : Nat} {ms : List Bool} (h : LB w (.slice (some ⟨g, off, none⟩) n cap) ms) (i : Nat) (hi : i < ms.length) : w.cell? ⟨g, off + i, none⟩ = some (.bool (ms.getD i false)) := by
  obtain ⟨_, _, e, _, h3⟩ := h
  injection e with e1
  subst e1
  obtain ⟨g', off', e2, _, hc⟩ := h3 i hi
  cases e2
  exact hc
theorem mn_true (ms : List Bool) (k p i : Nat) (h1 : p * 2 ^ k ≤ i) (h2 : i < (p + 1) * 2 ^ k) (h : ms.getD i false = true) : mn ms k p = true := by
  unfold mn
  rw [List.any_eq_true]
  rw [Nat.add_mul, Nat.one_mul] at h2
  exact ⟨i - p * 2 ^ k, List.mem_range.2 (by omega), by rw [show p * 2 ^ k + (i - p * 2 ^ k) = i by omega]; exact h⟩
theorem mn_false (ms : List Bool) (k p : Nat) (h : ∀ i, p * 2 ^ k ≤ i → i < (p + 1) * 2 ^ k → ms.getD i false = false) : mn ms k p = false := by
  unfold mn
  rw [List.any_eq_false]
  intro i hi
  have := List.mem_range.1 hi
  rw [h (p * 2 ^ k + i) (by omega) (by rw [Nat.add_mul, Nat.one_mul]; omega)]
  decide
section
set_option maxRecDepth 10000
set_option maxHeartbeats 4000000
theorem rmeant_any (v : Value) (ms : List Bool) (k p : Nat) (w : World) (hL : LB w v ms) (hk : k ≤ 10) (hp : p ≤ 300) (hn : ms.length ≤ 300) : Calls Tryd.prog 36 #[v, .int .i64 (k : Int), .int .i64 (p : Int)] w fun e w' => e = .returned (.bool (mn ms k p)) ∧ w' = w := by
  obtain ⟨ao, cap, rfl, hcap⟩ := hL.form
  have HL := hide hL
  have HN := hide (And.intro hk (And.intro hp hn))
  clear hL hk hp hn hcap
  go_enter Tryd.func36, Tryd.ntmps36
  go_wp2
  go_loop [7, 8] (fun x d => ∃ j : Nat, j ≤ k ∧ d = .int .i64 (j : Int) ∧ x = .int .i64 ((2 ^ j : Nat) : Int)) (fun _ d => (k - intOf d).toNat)
  case atStart => exact ⟨0, Nat.zero_le _, rfl, rfl⟩
  case round =>
    obtain ⟨j, hj, rfl, rfl⟩ := hrel
    have hk := HN.out.1
    have hpw : 2 ^ j ≤ 2 ^ 10 := Nat.pow_le_pow_right (by decide) (by omega)
    have hs : 2 ^ (j + 1) = 2 * 2 ^ j := Nat.pow_succ'
    by_cases hlt : j < k
    · have h1 : (j : Int) < (k : Int) := by omega
      have HS := hide hs
      generalize 2 ^ j = x at *
      have e1 : IntKind.i64.wrap ((x : Int) * 2) = x * 2 := wrapI _ (by omega) (by omega)
      have e2 : IntKind.i64.wrap ((j : Int) + 1) = j + 1 := wrapI _ (by omega) (by omega)
      clear hs
      go_wp2
      go_round
      case rel => exact ⟨j + 1, by omega, by go_num, by rw [HS.out]; congr 1; omega⟩
      case measure => simp [intOf]; omega
    · have h1 : ¬ (j : Int) < (k : Int) := by omega
      obtain rfl : j = k := by omega
      obtain ⟨W, hW⟩ : ∃ W, W = 2 ^ j := ⟨_, rfl⟩
      have hp := HN.out.2.1
      have hn := HN.out.2.2
      have HW := hide hW
      rw [← hW] at hpw ⊢
      have hpW : p * W ≤ 300 * 1024 := Nat.mul_le_mul hp (by simpa using hpw)
      have hpW2 : (p + 1) * W = p * W + W := by rw [Nat.add_mul, Nat.one_mul]
      have hpw3 : W ≤ 1024 := by simpa using hpw
      clear hW hs hpw hlt
      have e1 : IntKind.i64.wrap ((p : Int) * (W : Int)) = ((p * W : Nat) : Int) := by
        have : (p : Int) * (W : Int) = ((p * W : Nat) : Int) := (Int.natCast_mul _ _).symm
        rw [this, wrapI _ (by omega) (by omega)]
      have e2 : IntKind.i64.wrap ((p : Int) + 1) = ((p + 1 : Nat) : Int) := by rw [wrapI _ (by omega) (by omega)]; omega
      have e3 : IntKind.i64.wrap (((p + 1 : Nat) : Int) * (W : Int)) = (((p + 1) * W : Nat) : Int) := by
        have : ((p + 1 : Nat) : Int) * (W : Int) = (((p + 1) * W : Nat) : Int) := (Int.natCast_mul _ _).symm
        rw [this, wrapI _ (by omega) (by omega)]
      obtain ⟨a, ha⟩ : ∃ a, a = p * W := ⟨_, rfl⟩
      obtain ⟨b, hb⟩ : ∃ b, b = (p + 1) * W := ⟨_, rfl⟩
      rw [← ha] at e1 hpW hpW2
      rw [← hb] at e3 hpW2
      have HT : Hid (∀ i, a ≤ i → i < b → ms.getD i false = true → mn ms j p = true) := fun i h1 h2 h => mn_true ms j p i (by rw [← HW.out, ← ha]; exact h1) (by rw [← HW.out, ← hb]; exact h2) h
      have HF : Hid ((∀ i, a ≤ i → i < b → ms.getD i false = false) → mn ms j p = false) := fun h => mn_false ms j p (by rw [← HW.out, ← ha, ← hb]; exact h)
      clear ha hb
      generalize p + 1 = p1 at *
      have HB := hide (And.intro hpW (And.intro hpW2 hpw3))
      clear hpW hpW2 hpw3 hj
      go_wp2
      go_loop [9] (fun d => ∃ i : Nat, a ≤ i ∧ i ≤ b ∧ d = .int .i64 (i : Int) ∧ Hid (∀ x, a ≤ x → x < i → ms.getD x false = false)) (fun d => (b - intOf d).toNat)
      case atStart => exact ⟨a, Nat.le_refl _, by have := HB.out; omega, rfl, fun x h1 h2 => by omega⟩
      case round =>
        clear h1
        obtain ⟨i, hi1, hi2, rfl, HX⟩ := hrel
        have hB := HB.out
        by_cases hb : i < b
        · by_cases hl : i < ms.length
          · obtain ⟨g, off, rfl⟩ := HL.out.base (by omega)
            have c1 := HL.out.cell i hl
            have h1 : (i : Int) < (b : Int) := by omega
            have h2 : (i : Int) < (ms.length : Int) := by omega
            have h3 : (0 : Int) ≤ (i : Int) := by omega
            have e4 : IntKind.i64.wrap ((i : Int) + 1) = i + 1 := wrapI _ (by omega) (by omega)
            obtain ⟨m, hm⟩ : ∃ m, m = ms.getD i false := ⟨_, rfl⟩
            rw [← hm] at c1
            have HM := hide hm
            have HI := hide (And.intro hi1 hb)
            clear hm hl
            cases m
            · have HX2 : Hid (∀ x, a ≤ x → x < i + 1 → ms.getD x false = false) := fun x h1 h2 => by
                by_cases hx : x < i
                · exact HX.out x h1 hx
                · rw [show x = i by omega]
                  exact HM.out.symm
              clear HX
              go_wp2
              go_round
              case rel => exact ⟨i + 1, by omega, by omega, by go_num, HX2⟩
              case measure => simp [intOf]; omega
            · have HR := hide (HT.out i hi1 hb HM.out.symm)
              clear hb
              go_wp2
              go_ret
              exact ⟨by rw [HR.out]; rfl, rfl⟩
          · have h1 : (i : Int) < (b : Int) := by omega
            have h2 : ¬ (i : Int) < (ms.length : Int) := by omega
            have HR := hide (HF.out fun x h1 h2 => by
              by_cases hx : x < i
              · exact HX.out x h1 hx
              · rw [List.getD_eq_getElem?_getD, List.getElem?_eq_none (by omega)]
                rfl)
            clear hb hl
            go_wp2
            go_ret
            exact ⟨by rw [HR.out]; rfl, rfl⟩
        · have h1 : ¬ (i : Int) < (b : Int) := by omega
          have HR := hide (HF.out fun x h1 h2 => HX.out x h1 (by omega))
          clear hb
          go_wp2
          go_ret
          exact ⟨by rw [HR.out]; rfl, rfl⟩
end
end Go.Proofs.YthlaibkdcebekaaDoor
namespace Go.Proofs.YthlaibkdcebekaaDoor
open Go.RowKit
open Go.Deep
/-- An id whose first byte alone is said. -/
def fst1 (b : UInt8) : List UInt8 := b :: List.replicate 31 0
theorem fst1_len (b : UInt8) : (fst1 b).length = 32 := by simp [fst1]
theorem run_fst1 (b : UInt8) (w : World) : (Instr.build 39 #[(0, .int .u8 (b.toNat : Int))]).run Tryd.prog w = .ok (.agg (hc (fst1 b))) w := by kernel_rfl
section
variable {w : World} {ops : Array Oper} {rest : List Oper} {o : Oper} {a : Act} {Q : Exit → Act → World → Prop}
theorem wpList_bld1 (hw : Region.wanted o (yielded ops a.tmps) = true) {t : TypeId} (x : Operand) (ho : o.op = .build t #[(0, x)]) (v : Value) (c : Array Value) (hr : ∀ W, (Instr.build t #[(0, v)]).run Tryd.prog W = .ok (.agg c) W) (hx : a.eval x = v)
    (h : wpList Tryd.prog ops Q rest (a.put o.dst (.agg c)) w) : wpList Tryd.prog ops Q (o :: rest) a w := by
  refine wpList_step fun K hK => ?_
  rw [if_pos hw]
  unfold Oper.wp execOp
  simp only [ho, List.map_toArray, List.map_cons, List.map_nil, hx, hr w, Sem.run_bind, Result.andThen_ok, Sem.run_pure]
  exact hK _ _ h
end
theorem rtL_one (a : List UInt8) : rtL [a] = a := rfl
theorem muL_one (a : List UInt8) : muL [a] = false := rfl
theorem LH.new1 (w : World) (h : List UInt8) (hl : h.length = 32) {e : TypeId} : LH (w.alloc (.cells (hc h) e)) (.slice (some ⟨w.heap.size, 0, none⟩) 1 1) [h] := by
  refine ⟨H32.one hl, _, 1, rfl, Nat.le_refl _, fun i hi => ⟨w.heap.size, 0, rfl, by simp, ?_⟩⟩
  have : i = 0 := by simpa using hi
  subst this
  intro j u hu
  have := one_newH (e := e) w h j u (by rw [flat_one]; exact hu)
  have hadd : (⟨w.heap.size, 0, none⟩ : Addr).add j = ⟨w.heap.size, 0 + 0 * 32 + j, none⟩ := by unfold Addr.add; split <;> simp_all
  rw [← hadd]
  exact this
section
set_option maxRecDepth 10000
set_option maxHeartbeats 2000000
theorem awake6_any (w : World) (hK : Kg w) : Calls Tryd.prog 7 #[] w fun e w' => e = .returned (.bool true) ∧ Below w.heap.size w w' := by
  have HB : Hid (∀ W, (Instr.build 39 #[(0, .int .u8 7)]).run Tryd.prog W = .ok (.agg (hc (fst1 7))) W) := fun W => run_fst1 7 W
  have l7 := hide (fst1_len 7)
  have HL := hide (LH.new1 w (fst1 7) l7.out (e := 39))
  have B0 := hide ((Below.refl w.heap.size w).alloc (Nat.le_refl _) (.cells (hc (fst1 7)) 39))
  have HR := hide fun W hW hK => root_some (.slice (some ⟨w.heap.size, 0, none⟩) 1 1) [fst1 7] W hW (by simp) (by simp) hK
  rw [rtL_one, muL_one] at HR
  have HD : Hid (∀ W, Calls Tryd.prog 17 #[.int .i64 5] W fun e w' => e = .returned (.int .i64 3) ∧ w' = W) := fun W => depth_any 5 (by decide) W
  have KW : Hid (∀ W, Below w.heap.size w W → Kg W) := fun W h => hK.next h
  have EQ := hide fun W => eqH EH _ _ l7.out l7.out W
  rw [show (fst1 7 == fst1 7) = true by simp] at EQ
  clear hK
  generalize fst1 7 = s7 at *
  go_enter Tryd.func7, Tryd.ntmps7
  go_upto_region 2 with (first | refine wpList_bld1 rfl _ rfl _ (hc s7) HB.out rfl ?_ | refine ET.wpBs1 EH rfl _ rfl s7 l7.out rfl ?_ | (go_at_call 14; refine (HR.out _ HL.out (KW.out _ B0.out)).mono ?_; rintro e w1 ⟨rfl, be⟩; have B1 := hide (below_next B0.out be); clear be) | refine wpList_allocA A25 rfl rfl ?_ | refine wpList_store_newA A25 rfl _ _ rfl _ rfl (hc s7) (by rw [hc_size, l7.out]) (hc_one _) rfl rfl ?_)
  have B2 := hide (below_next B1.out ((Below.refl _ _).alloc (Nat.le_refl _) (.cells (hc s7) 39)))
  have r1 := hide (heap_alloc_last w1 (.cells (hc s7) 39))
  generalize w1.alloc (.cells (hc s7) 39) = W1 at *
  go_wp2_with (first | refine wpList_loadA A25 rfl _ rfl _ rfl (hc s7) (by rw [hc_size, l7.out]) 39 r1.out ?_ | refine wpList_bld1 rfl _ rfl _ (hc s7) HB.out rfl ?_ | refine wpList_eql 39 _ _ _ rfl (hc s7) (hc s7) rfl rfl rfl eqg25 true EQ.out ?_ | (go_at_call 17; refine (HD.out _).mono ?_; rintro e w3 ⟨rfl, hw3⟩; subst w3))
  go_ret
  exact ⟨rfl, B2.out⟩
end
end Go.Proofs.YthlaibkdcebekaaDoor
namespace Go.Proofs.YthlaibkdcebekaaDoor
open Go.RowKit
open Go.Deep
/-- The first k ids of a branch. -/
def brA (L : List (List UInt8)) (p i : Nat) : List UInt8 := ia (lv L i) (mt (lv L i).length (p / 2 ^ i))
def brK (L : List (List UInt8)) (p k : Nat) : List (List UInt8) := (List.range k).map (brA L p)
def brL (L : List (List UInt8)) (p : Nat) : List (List UInt8) := brK L p (dp L.length)
theorem brK_len (L : List (List UInt8)) (p k : Nat) : (brK L p k).length = k := by simp [brK]
theorem brK_snoc (L : List (List UInt8)) (p k : Nat) : brK L p (k + 1) = brK L p k ++ [brA L p k] := by simp [brK, List.range_succ]
theorem way_lt (L : List (List UInt8)) (p : Nat) (h : p < L.length) : ∀ k, p / 2 ^ k < (lv L k).length
  | 0 => by simpa [lv] using h
  | k + 1 => by
    rw [lv, nxt_len, Nat.pow_succ, ← Nat.div_div_eq_div_mul]
    have := way_lt L p h k
    omega
theorem half_way (p k : Nat) : p / 2 ^ k / 2 = p / 2 ^ (k + 1) := by rw [Nat.pow_succ, Nat.div_div_eq_div_mul]
theorem mt_ref (n p : Nat) (h : p < n) : mt n p = if p + 1 - 2 * (p % 2) = n then p else p + 1 - 2 * (p % 2) := by
  unfold mt
  rcases Nat.mod_two_eq_zero_or_one p with e | e
  · simp only [e, if_true]
    by_cases h2 : p + 1 < n
    · rw [if_pos h2, if_neg (by omega)]
      omega
    · rw [if_neg h2, if_pos (by omega)]
  · simp only [e, Nat.one_ne_zero, if_false]
    rw [if_pos (by omega), if_neg (by omega)]
    omega
/-- Two slices lie in blocks of their own. -/
def Apart (b l : Value) : Prop := ∀ g, b.ownBlock = some g → l.ownBlock ≠ some g
theorem apart_new {e e2 : TypeId} {w w2 : World} {b l : Value} {L M : List (List UInt8)} (j : OH e w b L) (o : Oj e2 w w2 l M) : Apart b l := fun g hg h => by
  have h1 := j.lt g hg
  have h2 := o.far g h
  omega
theorem LH.onto {W W' : World} {l b b' : Value} {L : List (List UInt8)} (h : LH W l L) (o : Onto W W' b b') (ha : Apart b l) : LH W' l L := by
  obtain ⟨h1, ao, cap, rfl, h2, h3⟩ := h
  refine ⟨h1, ao, cap, rfl, h2, fun i hi => ?_⟩
  obtain ⟨g, off, rfl, hg, hr⟩ := h3 i hi
  exact ⟨g, off, rfl, Nat.lt_of_lt_of_le hg o.grown.size, range_block hr (o.grown.block g hg (fun e => ha g e.symm rfl))⟩
theorem LH.lt {W : World} {l : Value} {L : List (List UInt8)} (h : LH W l L) (h0 : 0 < L.length) : ∀ g, l.ownBlock = some g → g < W.heap.size := by
  obtain ⟨h1, ao, cap, rfl, h2, h3⟩ := h
  obtain ⟨g, off, rfl, hg, _⟩ := h3 0 h0
  intro g' e
  cases e
  exact hg
section
set_option maxRecDepth 10000
set_option maxHeartbeats 4000000
theorem branch_no (v : Value) (L : List (List UInt8)) (p : Int) (w : World) (hL : LH w v L) (hp : p < 0 ∨ (L.length : Int) ≤ p) : Calls Tryd.prog 15 #[v, .int .i64 p] w fun e w' => e = .returned (.tuple #[.slice none 0 0, .int .i64 60]) ∧ w' = w := by
  obtain ⟨ao, cap, rfl⟩ := hL.form
  clear hL
  rcases hp with hp | hp
  · go_enter Tryd.func15, Tryd.ntmps15
    go_wp2
    go_ret2
    exact ⟨rfl, rfl⟩
  · have h0 : ¬ p < 0 := by omega
    go_enter Tryd.func15, Tryd.ntmps15
    go_wp2
    go_ret2
    exact ⟨rfl, rfl⟩
theorem branch_yes (v : Value) (L : List (List UInt8)) (p : Nat) (w : World) (hL : LH w v L) (hp : p < L.length) (hn : L.length < 4294967296) (hK : Kg w) : Calls Tryd.prog 15 #[v, .int .i64 (p : Int)] w fun e w' => ∃ v', e = .returned (.tuple #[v', .int .i64 0]) ∧ Oj 39 w w' v' (brL L p) := by
  obtain ⟨ao, cap, rfl⟩ := hL.form
  obtain ⟨i0, z, hi, hz, hzs, hs, hby⟩ := EH.parts
  have HL := hide hL
  have KW : Hid (∀ W, Below w.heap.size w W → Kg W) := fun W h => hK.next h
  have HD0 := hide fun W => depth_any L.length hn W
  have hdl := dp_le L.length hn
  have HN := hide (And.intro hp hn)
  have H3 := hide hL.1
  have p0 : ¬ (p : Int) < 0 := by omega
  have p1 : ¬ (L.length : Int) ≤ (p : Int) := by omega
  have HP0 := hide (show p / 2 ^ 0 = p by simp)
  clear hL hK hp hn
  go_enter Tryd.func15, Tryd.ntmps15
  go_wp2_with (first | (go_at_call 17; refine (HD0.out _).mono ?_; rintro e w1 ⟨rfl, hww⟩; subst w1) | (at_make; refine wpList_make_own _ rfl _ _ 22 rfl 0 39 i0 z 32 Tryd.underlying22 hi hz hs _ _ _ (dp L.length) rfl rfl (by omega) (by rw [hby]; omega) (by unfold maxLen; omega) (Nat.zero_le _) ?_; intro w2 hown1 hgrow1))
  have J0 : Hid (Oj 39 w w2 (.slice (some ⟨w.heap.size, 0, none⟩) 0 (dp L.length)) (brK L p 0)) := ⟨⟨H32.nil, hown1⟩, (Below.refl _ _).grown hgrow1 (Nat.le_refl _) (by intro k hk; cases hk), fun g hg => by cases hg; exact Nat.le_refl _⟩
  have L0 : Hid (LH w2 (.slice ao L.length cap) (lv L 0)) := HL.out.below J0.out.bel
  have A0 : Hid (Apart (.slice (some ⟨w.heap.size, 0, none⟩) 0 (dp L.length)) (.slice ao L.length cap)) := fun g hg h => by
    cases hg
    exact Nat.lt_irrefl _ (HL.out.lt (by have := HN.out.1; omega) _ h)
  clear hown1 hgrow1 hi hz hzs hs hby HD0 hdl HL p0 p1
  go_loopw [1, 6, 7] (fun q b l wr => ∃ k : Nat, q = .int .i64 ((p / 2 ^ k : Nat) : Int) ∧ Hid (Oj 39 w wr b (brK L p k)) ∧ Hid (LH wr l (lv L k)) ∧ Hid (dp (lv L k).length + k = dp L.length) ∧ Hid (Apart b l)) (fun _ _ l _ => lenV2 l)
  case atStart => exact ⟨0, by rw [HP0.out], J0, L0, rfl, A0⟩
  case round =>
    clear J0 L0 A0
    obtain ⟨k, rfl, J, JL, HD, AP⟩ := hrel
    obtain ⟨ao4, cap4, rfl⟩ := JL.out.form
    have hle := lv_le L k
    have hwl := way_lt L p HN.out.1 k
    have hn := HN.out.2
    have hpos : 0 < (lv L k).length := Nat.lt_of_le_of_lt (Nat.zero_le _) hwl
    have hx32 : p / 2 ^ k < 4294967296 := Nat.lt_of_lt_of_le hwl (Nat.le_of_lt (Nat.lt_of_le_of_lt hle hn))
    by_cases hlt : 1 < (lv L k).length
    · have h1 : (1 : Int) < ((lv L k).length : Int) := by omega
      obtain ⟨g, off, rfl⟩ := JL.out.base (by omega)
      have HD2 : Hid (dp (lv L (k + 1)).length + (k + 1) = dp L.length) := by
        show _ = _
        rw [← HD.out, dp_step _ hlt, lv, nxt_len]
        omega
      have hm := mt_lt (lv L k).length (p / 2 ^ k) hwl
      have HM := hide fun W => mate_any (p / 2 ^ k) (lv L k).length (by omega) W
      have l1 := hide ((lv_32 H3.out k).at _ hm)
      have R1 := hide (JL.out.range _ hm)
      have HAb := hide fun W hW hK => above_any (.slice (some ⟨g, off, none⟩) (lv L k).length cap4) (lv L k) W hW (by omega) hK
      rw [show nxt (lv L k) = lv L (k + 1) from rfl] at HAb
      have ME := hide (show (lv L (k + 1)).length < (lv L k).length by rw [lv, nxt_len]; omega)
      have SN := hide (brK_snoc L p k)
      rw [show brA L p k = ia (lv L k) (mt (lv L k).length (p / 2 ^ k)) from rfl] at SN
      have hd32 : k ≤ 32 := by
        have := dp_le L.length hn
        have := HD.out
        omega
      have SZ := hide (show (brK L p k).length + 1 ≤ 4398046511104 by rw [brK_len]; omega)
      have HW := hide (half_way p k)
      have h3 : ((mt (lv L k).length (p / 2 ^ k) : Nat) : Int) < ((lv L k).length : Int) := by omega
      have h4 : (0 : Int) ≤ ((mt (lv L k).length (p / 2 ^ k) : Nat) : Int) := by omega
      have h5 : ((p / 2 ^ k : Nat) : Int) / 2 = ((p / 2 ^ k / 2 : Nat) : Int) := by omega
      have h6 : (0 : Int) ≤ ((p / 2 ^ k : Nat) : Int) := Int.natCast_nonneg _
      have h7 : wrap64 ((p / 2 ^ k / 2 : Nat) : Int) = ((p / 2 ^ k / 2 : Nat) : Int) := by
        generalize p / 2 ^ k = y at hx32
        unfold wrap64
        omega
      generalize ia (lv L k) (mt (lv L k).length (p / 2 ^ k)) = A at *
      generalize mt (lv L k).length (p / 2 ^ k) = q at *
      have J1 := hide (J.out.next ((Below.refl _ _).alloc (Nat.le_refl _) (.cells (hc A) 39)))
      have JL1 := hide (JL.out.below ((Below.refl _ _).alloc (Nat.le_refl _) (.cells (hc A) 39)))
      generalize hq2 : p / 2 ^ k / 2 = x2 at *
      have HX2 := hide hq2
      generalize p / 2 ^ k = x1 at *
      clear hlt hle hwl hn hm hd32 hq2 hpos hx32
      go_upto_region 8 with (first | (go_at_call 29; refine (HM.out _).mono ?_; rintro e w1 ⟨rfl, hww⟩; subst w1) | refine ET.wpLoad EH rfl _ rfl g (off + q * 32) rfl A l1.out R1.out ?_ | refine ET.wpBs1 EH rfl _ rfl A l1.out rfl ?_ | (at_builtin; refine ET.wpApp EH rfl _ _ rfl u6 _ rfl J1.out.own ⟨_, 0, none⟩ A l1.out rfl (one_newH _ _) SZ.out ?_; intro v' w3 hown' hon3; have J3 := hide (J1.out.onto hon3 hown'); have JL3 := hide (JL1.out.onto hon3 AP.out)))
      rw [← SN.out] at J3
      clear hown' hon3 J J1 JL JL1 R1
      go_wp2_with (first | (go_at_call 28; refine (HAb.out _ JL3.out (KW.out _ J3.out.bel)).mono ?_; rintro e w4 ⟨v4, rfl, o4⟩; have J4 := hide (J3.out.next o4.bel); have JL4 := hide o4.own.read; have AP4 := hide (apart_new J3.out.own o4); clear o4))
      obtain ⟨ao2, cap2, rfl⟩ := JL4.out.form
      exact ⟨⟨k + 1, by rw [HW.out], J4, JL4, HD2, AP4⟩, by simpa [lenV2] using ME.out⟩
    · have h1 : ¬ (1 : Int) < ((lv L k).length : Int) := by omega
      have hl1 : (lv L k).length = 1 := by omega
      have hk : k = dp L.length := by
        have := HD.out
        rw [hl1, dp_low 1 (by omega)] at this
        omega
      have HE := hide (show brL L p = brK L p k by unfold brL; rw [hk])
      clear hlt hle hwl hn hl1 hk hpos hx32
      generalize p / 2 ^ k = x1 at *
      go_wp2
      go_ret2
      exact ⟨u6, rfl, by rw [HE.out]; exact J.out⟩
end
end Go.Proofs.YthlaibkdcebekaaDoor
namespace Go.Proofs.YthlaibkdcebekaaDoor
open Go.RowKit
open Go.Deep
/-- The cells of a list that can be read. -/
theorem LH.flat {w : World} {g off n cap : Nat} {L : List (List UInt8)} (h : LH w (.slice (some ⟨g, off, none⟩) n cap) L) : ∀ j u, (flat L)[j]? = some u → w.cell? ((⟨g, off, none⟩ : Addr).add j) = some u := by
  intro j u hu
  have hl := flat_len h.1
  have hj : j < L.length * 32 := by
    have := (List.getElem?_eq_some_iff.1 hu).1
    omega
  have hr := h.range (j / 32) (by omega)
  have e := flat_at h.1 (j / 32) (by omega) (j % 32) (Nat.mod_lt _ (by decide))
  rw [show j / 32 * 32 + j % 32 = j by omega, hu] at e
  have := hr (j % 32) u e.symm
  have hadd : (⟨g, off, none⟩ : Addr).add j = ⟨g, off + j / 32 * 32 + j % 32, none⟩ := by
    rw [show off + j / 32 * 32 + j % 32 = off + j by omega]
    unfold Addr.add
    split <;> simp_all
  rw [hadd]
  exact this
/-- An append of a whole list. -/
theorem ET.appAll {t e : TypeId} (E : ET t e) {w : World} {ty : TypeId} {v s : Value} {L N : List (List UInt8)} (hown : OH e w v L) (hv : v ≠ .slice none 0 0) (hs : LH w s N) (hsm : L.length + N.length ≤ 4398046511104) :
    ∃ v' w', (Builtin.append_ #[t, t] ty #[v, s]).run Tryd.prog w = .ok v' w' ∧ OH e w' v' (L ++ N) ∧ Onto w w' v v' := by
  obtain ⟨ao, cap, rfl⟩ := hs.form
  rcases ao with _ | ⟨g, off, spot⟩
  · have hN : N = [] := by
      rcases N with _ | ⟨x, r⟩
      · rfl
      · obtain ⟨_, ao', cap', e1, _, hat⟩ := hs
        injection e1 with e1
        subst e1
        obtain ⟨g, off, e2, _⟩ := hat 0 (by simp)
        cases e2
    subst hN
    obtain ⟨i0, z, hi, hz0, hzs, hz1, hz2⟩ := E.parts
    rcases hown.2.2 with ⟨rfl, h0⟩ | ⟨gv, capv, cur, rfl, hb, hg, hn, hm, hsz, ht⟩
    · exact absurd rfl hv
    · have hr := run_append_room_src (P := Tryd.prog) w t t ty e i0 E.sl hi gv 0 L.length capv (.slice none 0 cap) 0 [] (Src.ofNil w E.sl cap) (by omega) (fun j hj => by simp at hj) (fun j hj => by simp at hj)
      refine ⟨_, _, hr, ?_, ?_⟩
      · rw [List.append_nil]
        exact hown
      · exact Onto.refl _ _
  · have hspot : spot = none ∨ N = [] := by
      rcases N with _ | ⟨x, r⟩
      · exact .inr rfl
      · obtain ⟨_, ao', cap', e1, _, hat⟩ := hs
        injection e1 with e1
        subst e1
        obtain ⟨g', off', e2, _⟩ := hat 0 (by simp)
        injection e2 with e2
        injection e2 with _ _ e3
        exact .inl e3
    rcases hspot with rfl | rfl
    · exact E.app hown ⟨g, off, none⟩ N.length cap N hs.1 rfl hs.flat hsm
    · exact E.app hown ⟨g, off, spot⟩ 0 cap [] H32.nil rfl (fun j u hu => by simp [flat] at hu) hsm
section
variable {w : World} {ops : Array Oper} {rest : List Oper} {o : Oper} {a : Act} {Q : Exit → Act → World → Prop}
theorem ET.wpAppAll {t e : TypeId} (E : ET t e) (hgd : o.guard = none) (x y : Operand)
    (ho : o.op = .call { callee := .builtin .append, args := #[x, y], argTypes := #[t, t] })
    (v : Value) (L : List (List UInt8)) (hx : a.eval x = v) (hown : OH e w v L) (hv : v ≠ .slice none 0 0)
    (s : Value) (N : List (List UInt8)) (hy : a.eval y = s) (hs : LH w s N) (hsm : L.length + N.length ≤ 4398046511104)
    (h : ∀ v' w', OH e w' v' (L ++ N) → Onto w w' v v' → wpList Tryd.prog ops Q rest (a.put o.dst v') w') :
    wpList Tryd.prog ops Q (o :: rest) a w := by
  refine wpList_plain hgd fun K hK => ?_
  obtain ⟨v', w', hr, h2, h3⟩ := E.appAll (ty := o.type) hown hv hs hsm
  unfold Oper.wp execOp
  simp only [ho, resolve, invoke, builtin, Sem.run_bind, Sem.run_pure, Result.andThen_ok, List.map_toArray, List.map_cons, List.map_nil, hx, hy, hr]
  exact hK _ _ (h v' w' h2 h3)
end
/-- A level of the document's, and an answer's place. -/
structure Rg (w W : World) (v : Value) (L : List (List UInt8)) : Prop where
  lh : LH W v L
  r : W.heap[w.heap.size]? = some (.cells (hc zeros) 38 (0, 0))
  bel : Below w.heap.size w W
theorem Rg.level {w W W' : World} {v v' : Value} {L L' : List (List UInt8)} (j : Rg w W v L) (o : Oj 38 W W' v' L') : Rg w W' v' L' := ⟨o.own.read, (o.bel.block _ (lt_heap j.r)).trans j.r, below_next j.bel o.bel⟩
section
set_option maxRecDepth 10000
set_option maxHeartbeats 2000000
theorem clone_any6 (v : Value) (L : List (List UInt8)) (w : World) (hL : LH w v L) (h0 : 0 < L.length) (hn : L.length < 4294967296) : Calls Tryd.prog 33 #[v] w fun e w' => ∃ v', e = .returned v' ∧ Oj 39 w w' v' L := by
  obtain ⟨ao, cap, rfl⟩ := hL.form
  obtain ⟨g, off, rfl⟩ := hL.base h0
  have J0 : Hid (Oj 39 w (w.alloc (.cells #[] 39)) (.slice (some ⟨w.heap.size, 0, none⟩) 0 0) []) := ⟨OH.new0 w, (Below.refl _ _).alloc (Nat.le_refl _) _, fun g hg => by cases hg; exact Nat.le_refl _⟩
  have HL1 := hide (hL.below J0.out.bel)
  have SZ := hide (show ([] : List (List UInt8)).length + L.length ≤ 4398046511104 by simp; omega)
  have hq : (binOp .eql 22 (.slice (some ⟨g, off, none⟩) L.length cap) (.slice none 0 0)).run Tryd.prog w = .ok (.bool false) w := by
    simp only [binOp]
    simp [run_equal_slice_nil (P := Tryd.prog) w 22 39 (some ⟨g, off, none⟩) L.length cap Tryd.underlying22]
  clear hL h0 hn
  go_enter Tryd.func33, Tryd.ntmps33
  go_wp2_with (first | refine ET.wpBs0 EH rfl rfl ?_ | (at_builtin; refine ET.wpAppAll EH rfl _ _ rfl (.slice (some ⟨w.heap.size, 0, none⟩) 0 0) [] rfl J0.out.own (by simp) _ L rfl HL1.out SZ.out ?_; intro v' w3 hown' hon3; have J3 := hide (J0.out.onto hon3 hown')))
  go_ret
  exact ⟨_, rfl, J3.out⟩
end
end Go.Proofs.YthlaibkdcebekaaDoor
