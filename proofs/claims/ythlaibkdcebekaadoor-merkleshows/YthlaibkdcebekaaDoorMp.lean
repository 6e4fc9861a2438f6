/- The longer list with the same root: the contracts of TrailingZeros, Odd and the document's Odd. -/
import Derived.Test.YthlaibkdcebekaaDoorMo
namespace Go.Proofs.YthlaibkdcebekaaDoor
open Go.RowKit
open Go.Deep
/-- The library's table of places. -/
def tab64 : List Nat := [0,1,56,2,57,49,28,3,61,58,42,50,38,29,17,4,62,47,59,36,45,43,51,22,53,39,33,30,24,18,12,5,63,55,48,27,60,41,37,16,46,35,44,21,52,32,23,11,54,26,40,15,34,20,31,10,25,14,19,9,13,8,7,6]
/-- The table lies in its place. -/
def Kt (w : World) : Prop := ∀ j, j < 64 → w.cell? ⟨1, j, none⟩ = some (.int .u8 ((tab64.getD j 0 : Nat) : Int))
theorem Kt.lt {w : World} (h : Kt w) : 1 < w.heap.size := by
  have := h 0 (by omega)
  rcases Nat.lt_or_ge 1 w.heap.size with h' | h'
  · exact h'
  · have e : w.heap[1]? = none := Array.getElem?_eq_none h'
    simp [World.cell?, e] at this
theorem Kt.next {w w' : World} (h : Kt w) (b : Below w.heap.size w w') : Kt w' := fun j hj => (b.cell (p := ⟨1, j, none⟩) h.lt).trans (h j hj)
/-- The lowest bit of a number. -/
def lbN (n : Nat) : Nat := n &&& (18446744073709551616 - n)
def ixN (n : Nat) : Nat := lbN n * 285870213051353865 % 18446744073709551616 / 288230376151711744
def tzN (n : Nat) : Nat := tab64.getD (ixN n) 0
theorem tz_all : ∀ n : Fin 301, 0 < n.val → ixN n.val < 64 ∧ tzN n.val < 10 ∧ 2 ^ tzN n.val = lbN n.val ∧ lbN n.val ≤ n.val := by decide +kernel
theorem tz_facts (n : Nat) (h0 : 0 < n) (hn : n ≤ 300) : ixN n < 64 ∧ tzN n < 10 ∧ 2 ^ tzN n = lbN n ∧ lbN n ≤ n := tz_all ⟨n, by omega⟩ h0
/-- How many ids are told again. -/
def odN (n : Nat) : Nat := if lbN n = n then 0 else lbN n
/-- .. by the document's way. -/
def rod : Nat → Nat → Nat → Nat
  | 0, _, _ => 0
  | f + 1, n, x => if x < n then (if (n + x - 1) / x % 2 = 1 then n - ((n + x - 1) / x - 1) * x else rod f n (2 * x)) else 0
theorem rod_all : ∀ n : Fin 301, 0 < n.val → rod 10 n.val 1 = odN n.val ∧ odN n.val ≤ n.val := by decide +kernel
theorem rod_facts (n : Nat) (h0 : 0 < n) (hn : n ≤ 300) : rod 10 n 1 = odN n ∧ odN n ≤ n := rod_all ⟨n, by omega⟩ h0
def odL (L : List (List UInt8)) : List (List UInt8) := L ++ L.drop (L.length - odN L.length)
theorem LH.drop {w : World} {g off n cap m : Nat} {L : List (List UInt8)} (h : LH w (.slice (some ⟨g, off, none⟩) n cap) L) (hm : m ≤ L.length) : LH w (.slice (some ⟨g, off + m * 32, none⟩) (L.length - m) (cap - m)) (L.drop m) := by
  have hl : (L.drop m).length = L.length - m := by simp
  have hc : L.length ≤ cap := by
    obtain ⟨_, _, _, e, h2, _⟩ := h
    injection e with e1 e2 e3
    omega
  refine ⟨fun x hx => h.1 x (List.mem_of_mem_drop hx), _, cap - m, by rw [hl], by omega, fun i hi => ?_⟩
  rw [hl] at hi
  refine ⟨g, off + m * 32, rfl, ?_, ?_⟩
  · have h0 := h.lt (by omega) g rfl
    exact h0
  · have := h.range (m + i) (by omega)
    rw [show off + m * 32 + i * 32 = off + (m + i) * 32 by omega]
    have e : ia (L.drop m) i = ia L (m + i) := by
      unfold ia
      rw [List.getD_eq_getElem?_getD, List.getD_eq_getElem?_getD, List.getElem?_drop]
    rw [e]
    exact this
theorem own_some {e : TypeId} {w : World} {v : Value} {L : List (List UInt8)} (h : OH e w v L) (h0 : L ≠ []) : v ≠ .slice none 0 0 := by
  rintro rfl
  obtain ⟨ao, c, e1⟩ := h.form
  injection e1 with _ e2
  exact h0 (List.eq_nil_of_length_eq_zero e2.symm)
section
set_option maxRecDepth 10000
set_option maxHeartbeats 4000000
theorem tz_words (n : Nat) (h0 : 0 < n) (hn : n ≤ 300) : ∃ mm lb pp ix tz : Nat, tz = tzN n ∧ IntKind.u64.wrap (-(n : Int)) = (mm : Int) ∧ bits .and .u64 (n : Int) (mm : Int) = (lb : Int) ∧ IntKind.u64.wrap ((lb : Int) * 285870213051353865) = (pp : Int) ∧ (pp : Int) / 288230376151711744 = (ix : Int) ∧ ix < 64 ∧ tab64.getD ix 0 = tz ∧ tz < 10 := by
  have h := tz_facts n h0 hn
  refine ⟨18446744073709551616 - n, lbN n, lbN n * 285870213051353865 % 18446744073709551616, ixN n, tzN n, rfl, ?_, u64_and_nat n (18446744073709551616 - n) (by omega) (by omega), ?_, ?_, h.1, rfl, h.2.1⟩
  · simp only [IntKind.wrap_u64]
    omega
  · simp only [IntKind.wrap_u64]
    generalize lbN n = lb
    omega
  · unfold ixN
    generalize lbN n * 285870213051353865 % 18446744073709551616 = pp
    omega
theorem tz64_any (n : Nat) (h0 : 0 < n) (hn : n ≤ 300) (w : World) (hT : Kt w) : Calls Tryd.prog 44 #[.int .u64 (n : Int)] w fun e w' => e = .returned (.int .i64 ((tzN n : Nat) : Int)) ∧ w' = w := by
  obtain ⟨mm, lb, pp, ix, tz, ht, e1, e2, e3, e4, h6, h7, h8⟩ := tz_words n h0 hn
  have c1 := hT ix h6
  rw [h7] at c1
  rw [← ht]
  have hne : ((n : Int) == 0) = false := by rw [beq_eq_false_iff_ne]; omega
  have e5 : (ix : Int) < 64 := by omega
  have e6 : (0 : Int) ≤ (ix : Int) := by omega
  have e7 : IntKind.i64.wrap (tz : Int) = (tz : Int) := wrapI _ (by omega) (by omega)
  clear hT h0 hn ht h6 h7 h8
  go_enter Tryd.func44, Tryd.ntmps44
  go_wp2
  go_ret
  exact ⟨rfl, rfl⟩
theorem tz_any (n : Nat) (h0 : 0 < n) (hn : n ≤ 300) (w : World) (hT : Kt w) : Calls Tryd.prog 32 #[.int .u64 (n : Int)] w fun e w' => e = .returned (.int .i64 ((tzN n : Nat) : Int)) ∧ w' = w := by
  have HL := hide fun W hW => tz64_any n h0 hn W hW
  have HT := hide hT
  clear h0 hn hT
  go_enter Tryd.func32, Tryd.ntmps32
  go_wp2_with (go_at_call 44; refine (HL.out _ HT.out).mono ?_; rintro e w3 ⟨rfl, hw3⟩; subst w3)
  go_ret
  exact ⟨rfl, rfl⟩
theorem odd_any (v : Value) (L : List (List UInt8)) (w : World) (hL : LH w v L) (hn : L.length ≤ 300) (hT : Kt w) : Calls Tryd.prog 18 #[v] w fun e w' => ∃ v', e = .returned v' ∧ LH w' v' (odL L) ∧ Below w.heap.size w w' := by
  obtain ⟨ao, cap, rfl⟩ := hL.form
  by_cases h0 : L.length = 0
  · have hL0 : L = [] := List.eq_nil_of_length_eq_zero h0
    subst hL0
    rw [List.length_nil]
    have HO : Hid (LH w (.slice none 0 0) (odL [])) := (OH.nil 39 w).read
    clear hL hn hT h0
    go_enter Tryd.func18, Tryd.ntmps18
    go_wp2
    go_ret
    exact ⟨_, rfl, HO.out, Below.refl _ _⟩
  · obtain ⟨g, off, rfl⟩ := hL.base (by omega)
    obtain ⟨i0, z, hi, hz, hzs, hs, hby⟩ := EH.parts
    obtain ⟨t1, t2, t3, t4⟩ := tz_facts L.length (by omega) hn
    have ho := (rod_facts L.length (by omega) hn).2
    have HTz := hide (tz_any L.length (by omega) hn w hT)
    have hp1 : (2 : Int) ^ tzN L.length = ((lbN L.length : Nat) : Int) := by rw [← t3]; simp
    have h64 : ((tzN L.length : Nat) : Int) ≤ 64 := by omega
    have hz0 : (0 : Int) ≤ ((tzN L.length : Nat) : Int) := by omega
    have hlb : IntKind.i64.wrap ((lbN L.length : Nat) : Int) = ((lbN L.length : Nat) : Int) := wrapI _ (by omega) (by omega)
    have hne : ((L.length : Int) == 0) = false := by rw [beq_eq_false_iff_ne]; omega
    have hu : IntKind.u64.wrap (L.length : Int) = (L.length : Int) := wrapu _ (by omega) (by omega)
    have HOD := hide (show odN L.length = if lbN L.length = L.length then 0 else lbN L.length from rfl)
    have HL := hide hL
    have e1 : IntKind.i64.wrap ((L.length : Int) + ((odN L.length : Nat) : Int)) = ((L.length + odN L.length : Nat) : Int) := by rw [wrapI _ (by omega) (by omega)]; omega
    have e2 : IntKind.i64.wrap ((L.length : Int) - ((odN L.length : Nat) : Int)) = ((L.length - odN L.length : Nat) : Int) := by rw [wrapI _ (by omega) (by omega)]; omega
    have HB := hide (And.intro hn ho)
    obtain ⟨od, hod⟩ : ∃ od, od = odN L.length := ⟨_, rfl⟩
    have HOL : Hid (odL L = L ++ L.drop (L.length - od)) := by rw [hod]; rfl
    rw [← hod] at e1 e2 HOD HB
    generalize tzN L.length = tz at *
    generalize lbN L.length = lb at *
    clear hL hn hT h0 t1 t2 t3 t4 ho hod
    go_enter Tryd.func18, Tryd.ntmps18
    go_upto_region 5 with (first | (go_at_call 32; refine HTz.out.mono ?_; rintro e w3 ⟨rfl, hw3⟩; subst w3))
    obtain ⟨qb, hqb⟩ : ∃ qb, ((lb : Int) == (L.length : Int)) = qb := ⟨_, rfl⟩
    have HQB := hide hqb
    go_upto_if 16 with fail
    clear hqb
    go_cut [4] from 17 to 17 (fun s4 wx => s4 = .int .i64 (od : Int) ∧ wx = w)
    case first =>
      cases qb
      · have h1 : lb ≠ L.length := by
          have := HQB.out
          rw [beq_eq_false_iff_ne] at this
          omega
        have h2 : od = lb := by rw [HOD.out, if_neg h1]
        have H2 := hide h2
        clear h1 h2
        go_wp2_with fail
        go_meet
        exact ⟨by rw [H2.out], rfl⟩
      · have h1 : lb = L.length := by
          have := HQB.out
          rw [beq_iff_eq] at this
          omega
        have h2 : od = 0 := by rw [HOD.out, if_pos h1]
        have H2 := hide h2
        clear h1 h2
        go_wp2_with fail
        go_meet
        exact ⟨by rw [H2.out]; rfl, rfl⟩
    obtain ⟨rfl, hwc⟩ := hcut
    subst wc
    clear hp1 h64 hz0 hlb HQB HOD HTz hu
    obtain ⟨hn, ho⟩ := HB.out
    go_upto_region 8 with (first | (at_make; refine wpList_make_own _ rfl _ _ 22 rfl 0 39 i0 z 32 Tryd.underlying22 hi hz hs _ _ _ (L.length + od) rfl rfl (by omega) (by rw [hby]; omega) (by unfold maxLen; omega) (Nat.zero_le _) ?_; intro w2 hown1 hgrow1))
    have J0 : Hid (Oj 39 w w2 (.slice (some ⟨w.heap.size, 0, none⟩) 0 (L.length + od)) []) := ⟨⟨H32.nil, hown1⟩, (Below.refl _ _).grown hgrow1 (Nat.le_refl _) (by intro k hk; cases hk), fun g hg => by cases hg; exact Nat.le_refl _⟩
    have L0 := hide (HL.out.below J0.out.bel)
    have A0 : Hid (Apart (.slice (some ⟨w.heap.size, 0, none⟩) 0 (L.length + od)) (.slice (some ⟨g, off, none⟩) L.length cap)) := fun g' hg h => by
      cases hg
      by_cases h00 : 0 < L.length
      · exact Nat.lt_irrefl _ (HL.out.lt h00 _ h)
      · rw [beq_eq_false_iff_ne] at hne
        omega
    have SZ := hide (show ([] : List (List UInt8)).length + L.length ≤ 4398046511104 by simp; omega)
    clear hown1 hgrow1 hi hz hzs hs hby
    go_upto_region 9 with (first | (at_builtin; refine ET.wpAppAll EH rfl _ _ rfl (.slice (some ⟨w.heap.size, 0, none⟩) 0 (L.length + od)) [] rfl J0.out.own (by simp) _ L rfl L0.out SZ.out ?_; intro v' w3 hown' hon3; have J3 := hide (J0.out.onto hon3 hown'); have L3 := hide (L0.out.onto hon3 A0.out); have N3 := hide (show v' ≠ .slice none 0 0 from own_some hown' (by simp; exact fun h => by rw [h] at hne; simp at hne))))
    rw [List.nil_append] at J3
    have L4 := hide (L3.out.drop (m := L.length - od) (by omega))
    rw [show L.length - (L.length - od) = od by omega] at L4
    have K4 := hide (L3.out.form)
    have b1 : (0 : Int) ≤ ((L.length - od : Nat) : Int) := by omega
    have b2 : ((L.length - od : Nat) : Int) ≤ (L.length : Int) := by omega
    have hcap : L.length ≤ cap := by
      obtain ⟨_, _, _, e, h2, _⟩ := HL.out
      injection e with e1 e2 e3
      omega
    have b3 : (L.length : Int) ≤ (cap : Int) := by omega
    have b4 : L.length - (L.length - od) = od := by omega
    have SZ4 := hide (show L.length + (L.drop (L.length - od)).length ≤ 4398046511104 by rw [List.length_drop]; omega)
    clear hown' hon3 hn ho
    by_cases hc : cap = L.length - od
    · have L5 : Hid (LH w3 (.slice (some ⟨g, off, none⟩) od 0) (L.drop (L.length - od))) := by
        have h0 : od = 0 := by omega
        subst h0
        rw [show L.drop (L.length - 0) = [] by simp]
        exact ⟨H32.nil, _, 0, rfl, Nat.le_refl _, fun i hi => absurd hi (by simp)⟩
      go_wp2_with (first | (at_builtin; refine ET.wpAppAll EH rfl _ _ rfl v' L rfl J3.out.own N3.out _ (L.drop (L.length - od)) rfl L5.out SZ4.out ?_; intro v5 w5 hown5 hon5; have J5 := hide (J3.out.onto hon5 hown5)))
      go_ret
      exact ⟨_, rfl, by rw [HOL.out]; exact J5.out.own.read, J5.out.bel⟩
    · go_wp2_with (first | (at_builtin; refine ET.wpAppAll EH rfl _ _ rfl v' L rfl J3.out.own N3.out _ (L.drop (L.length - od)) rfl L4.out SZ4.out ?_; intro v5 w5 hown5 hon5; have J5 := hide (J3.out.onto hon5 hown5)))
      go_ret
      exact ⟨_, rfl, by rw [HOL.out]; exact J5.out.own.read, J5.out.bel⟩
end
end Go.Proofs.YthlaibkdcebekaaDoor
