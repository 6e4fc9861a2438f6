/- The contracts of Branch and of the document's Branch. -/
import Derived.Test.YthlaibkdcebekaaDoorMj
namespace Go.Proofs.YthlaibkdcebekaaDoor
open Go.RowKit
open Go.Deep
/-- The first k ids of a branch. -/
def brA (L : List (List UInt8)) (p i : Nat) : List UInt8 := ia (lv L i) (mt (lv L i).length (p / 2 ^ i))
def brK (L : List (List UInt8)) (p k : Nat) : List (List UInt8) := (List.range k).map (brA L p)
def brL (L : List (List UInt8)) (p : Nat) : List (List UInt8) := brK L p (dp L.length)
theorem brK_len (L : List (List UInt8)) (p k : Nat) : (brK L p k).length = k := by simp [brK]
theorem brK_snoc (L : List (List UInt8)) (p k : Nat) : brK L p (k + 1) = brK L p k ++ [brA L p k] := by simp [brK, List.range_succ]
theorem way_lt (L : List (List UInt8)) (p : Nat) (h : p < L.length) : ∀ k, p / 2 ^ k < (lv L k).length
  | 0 => by simpa [lv] using h
  | k + 1 => by
    rw [lv, nxt_len, Nat.pow_succ, ← Nat.div_div_eq_div_mul]
    have := way_lt L p h k
    omega
theorem half_way (p k : Nat) : p / 2 ^ k / 2 = p / 2 ^ (k + 1) := by rw [Nat.pow_succ, Nat.div_div_eq_div_mul]
theorem mt_ref (n p : Nat) (h : p < n) : mt n p = if p + 1 - 2 * (p % 2) = n then p else p + 1 - 2 * (p % 2) := by
  unfold mt
  rcases Nat.mod_two_eq_zero_or_one p with e | e
  · simp only [e, if_true]
    by_cases h2 : p + 1 < n
    · rw [if_pos h2, if_neg (by omega)]
      omega
    · rw [if_neg h2, if_pos (by omega)]
  · simp only [e, Nat.one_ne_zero, if_false]
    rw [if_pos (by omega), if_neg (by omega)]
    omega
/-- Two slices lie in blocks of their own. -/
def Apart (b l : Value) : Prop := ∀ g, b.ownBlock = some g → l.ownBlock ≠ some g
theorem apart_new {e e2 : TypeId} {w w2 : World} {b l : Value} {L M : List (List UInt8)} (j : OH e w b L) (o : Oj e2 w w2 l M) : Apart b l := fun g hg h => by
  have h1 := j.lt g hg
  have h2 := o.far g h
  omega
theorem LH.onto {W W' : World} {l b b' : Value} {L : List (List UInt8)} (h : LH W l L) (o : Onto W W' b b') (ha : Apart b l) : LH W' l L := by
  obtain ⟨h1, ao, cap, rfl, h2, h3⟩ := h
  refine ⟨h1, ao, cap, rfl, h2, fun i hi => ?_⟩
  obtain ⟨g, off, rfl, hg, hr⟩ := h3 i hi
  exact ⟨g, off, rfl, Nat.lt_of_lt_of_le hg o.grown.size, range_block hr (o.grown.block g hg (fun e => ha g e.symm rfl))⟩
theorem LH.lt {W : World} {l : Value} {L : List (List UInt8)} (h : LH W l L) (h0 : 0 < L.length) : ∀ g, l.ownBlock = some g → g < W.heap.size := by
  obtain ⟨h1, ao, cap, rfl, h2, h3⟩ := h
  obtain ⟨g, off, rfl, hg, _⟩ := h3 0 h0
  intro g' e
  cases e
  exact hg
section
set_option maxRecDepth 10000
set_option maxHeartbeats 4000000
theorem branch_no (v : Value) (L : List (List UInt8)) (p : Int) (w : World) (hL : LH w v L) (hp : p < 0 ∨ (L.length : Int) ≤ p) : Calls Tryd.prog 15 #[v, .int .i64 p] w fun e w' => e = .returned (.tuple #[.slice none 0 0, .int .i64 60]) ∧ w' = w := by
  obtain ⟨ao, cap, rfl⟩ := hL.form
  clear hL
  rcases hp with hp | hp
  · go_enter Tryd.func15, Tryd.ntmps15
    go_wp2
    go_ret2
    exact ⟨rfl, rfl⟩
  · have h0 : ¬ p < 0 := by omega
    go_enter Tryd.func15, Tryd.ntmps15
    go_wp2
    go_ret2
    exact ⟨rfl, rfl⟩
theorem branch_yes (v : Value) (L : List (List UInt8)) (p : Nat) (w : World) (hL : LH w v L) (hp : p < L.length) (hn : L.length < 4294967296) (hK : Kg w) : Calls Tryd.prog 15 #[v, .int .i64 (p : Int)] w fun e w' => ∃ v', e = .returned (.tuple #[v', .int .i64 0]) ∧ Oj 39 w w' v' (brL L p) := by
  obtain ⟨ao, cap, rfl⟩ := hL.form
  obtain ⟨i0, z, hi, hz, hzs, hs, hby⟩ := EH.parts
  have HL := hide hL
  have KW : Hid (∀ W, Below w.heap.size w W → Kg W) := fun W h => hK.next h
  have HD0 := hide fun W => depth_any L.length hn W
  have hdl := dp_le L.length hn
  have HN := hide (And.intro hp hn)
  have H3 := hide hL.1
  have p0 : ¬ (p : Int) < 0 := by omega
  have p1 : ¬ (L.length : Int) ≤ (p : Int) := by omega
  have HP0 := hide (show p / 2 ^ 0 = p by simp)
  clear hL hK hp hn
  go_enter Tryd.func15, Tryd.ntmps15
  go_wp2_with (first | (go_at_call 17; refine (HD0.out _).mono ?_; rintro e w1 ⟨rfl, hww⟩; subst w1) | (at_make; refine wpList_make_own _ rfl _ _ 22 rfl 0 39 i0 z 32 Tryd.underlying22 hi hz hs _ _ _ (dp L.length) rfl rfl (by omega) (by rw [hby]; omega) (by unfold maxLen; omega) (Nat.zero_le _) ?_; intro w2 hown1 hgrow1))
  have J0 : Hid (Oj 39 w w2 (.slice (some ⟨w.heap.size, 0, none⟩) 0 (dp L.length)) (brK L p 0)) := ⟨⟨H32.nil, hown1⟩, (Below.refl _ _).grown hgrow1 (Nat.le_refl _) (by intro k hk; cases hk), fun g hg => by cases hg; exact Nat.le_refl _⟩
  have L0 : Hid (LH w2 (.slice ao L.length cap) (lv L 0)) := HL.out.below J0.out.bel
  have A0 : Hid (Apart (.slice (some ⟨w.heap.size, 0, none⟩) 0 (dp L.length)) (.slice ao L.length cap)) := fun g hg h => by
    cases hg
    exact Nat.lt_irrefl _ (HL.out.lt (by have := HN.out.1; omega) _ h)
  clear hown1 hgrow1 hi hz hzs hs hby HD0 hdl HL p0 p1
  go_loopw [1, 6, 7] (fun q b l wr => ∃ k : Nat, q = .int .i64 ((p / 2 ^ k : Nat) : Int) ∧ Hid (Oj 39 w wr b (brK L p k)) ∧ Hid (LH wr l (lv L k)) ∧ Hid (dp (lv L k).length + k = dp L.length) ∧ Hid (Apart b l)) (fun _ _ l _ => lenV2 l)
  case atStart => exact ⟨0, by rw [HP0.out], J0, L0, rfl, A0⟩
  case round =>
    clear J0 L0 A0
    obtain ⟨k, rfl, J, JL, HD, AP⟩ := hrel
    obtain ⟨ao4, cap4, rfl⟩ := JL.out.form
    have hle := lv_le L k
    have hwl := way_lt L p HN.out.1 k
    have hn := HN.out.2
    have hpos : 0 < (lv L k).length := Nat.lt_of_le_of_lt (Nat.zero_le _) hwl
    have hx32 : p / 2 ^ k < 4294967296 := Nat.lt_of_lt_of_le hwl (Nat.le_of_lt (Nat.lt_of_le_of_lt hle hn))
    by_cases hlt : 1 < (lv L k).length
    · have h1 : (1 : Int) < ((lv L k).length : Int) := by omega
      obtain ⟨g, off, rfl⟩ := JL.out.base (by omega)
      have HD2 : Hid (dp (lv L (k + 1)).length + (k + 1) = dp L.length) := by
        show _ = _
        rw [← HD.out, dp_step _ hlt, lv, nxt_len]
        omega
      have hm := mt_lt (lv L k).length (p / 2 ^ k) hwl
      have HM := hide fun W => mate_any (p / 2 ^ k) (lv L k).length (by omega) W
      have l1 := hide ((lv_32 H3.out k).at _ hm)
      have R1 := hide (JL.out.range _ hm)
      have HAb := hide fun W hW hK => above_any (.slice (some ⟨g, off, none⟩) (lv L k).length cap4) (lv L k) W hW (by omega) hK
      rw [show nxt (lv L k) = lv L (k + 1) from rfl] at HAb
      have ME := hide (show (lv L (k + 1)).length < (lv L k).length by rw [lv, nxt_len]; omega)
      have SN := hide (brK_snoc L p k)
      rw [show brA L p k = ia (lv L k) (mt (lv L k).length (p / 2 ^ k)) from rfl] at SN
      have hd32 : k ≤ 32 := by
        have := dp_le L.length hn
        have := HD.out
        omega
      have SZ := hide (show (brK L p k).length + 1 ≤ 4398046511104 by rw [brK_len]; omega)
      have HW := hide (half_way p k)
      have h3 : ((mt (lv L k).length (p / 2 ^ k) : Nat) : Int) < ((lv L k).length : Int) := by omega
      have h4 : (0 : Int) ≤ ((mt (lv L k).length (p / 2 ^ k) : Nat) : Int) := by omega
      have h5 : ((p / 2 ^ k : Nat) : Int) / 2 = ((p / 2 ^ k / 2 : Nat) : Int) := by omega
      have h6 : (0 : Int) ≤ ((p / 2 ^ k : Nat) : Int) := Int.natCast_nonneg _
      have h7 : wrap64 ((p / 2 ^ k / 2 : Nat) : Int) = ((p / 2 ^ k / 2 : Nat) : Int) := by
        generalize p / 2 ^ k = y at hx32
        unfold wrap64
        omega
      generalize ia (lv L k) (mt (lv L k).length (p / 2 ^ k)) = A at *
      generalize mt (lv L k).length (p / 2 ^ k) = q at *
      have J1 := hide (J.out.next ((Below.refl _ _).alloc (Nat.le_refl _) (.cells (hc A) 39)))
      have JL1 := hide (JL.out.below ((Below.refl _ _).alloc (Nat.le_refl _) (.cells (hc A) 39)))
      generalize hq2 : p / 2 ^ k / 2 = x2 at *
      have HX2 := hide hq2
      generalize p / 2 ^ k = x1 at *
      clear hlt hle hwl hn hm hd32 hq2 hpos hx32
      go_upto_region 8 with (first | (go_at_call 29; refine (HM.out _).mono ?_; rintro e w1 ⟨rfl, hww⟩; subst w1) | refine ET.wpLoad EH rfl _ rfl g (off + q * 32) rfl A l1.out R1.out ?_ | refine ET.wpBs1 EH rfl _ rfl A l1.out rfl ?_ | (at_builtin; refine ET.wpApp EH rfl _ _ rfl u6 _ rfl J1.out.own ⟨_, 0, none⟩ A l1.out rfl (one_newH _ _) SZ.out ?_; intro v' w3 hown' hon3; have J3 := hide (J1.out.onto hon3 hown'); have JL3 := hide (JL1.out.onto hon3 AP.out)))
      rw [← SN.out] at J3
      clear hown' hon3 J J1 JL JL1 R1
      go_wp2_with (first | (go_at_call 28; refine (HAb.out _ JL3.out (KW.out _ J3.out.bel)).mono ?_; rintro e w4 ⟨v4, rfl, o4⟩; have J4 := hide (J3.out.next o4.bel); have JL4 := hide o4.own.read; have AP4 := hide (apart_new J3.out.own o4); clear o4))
      obtain ⟨ao2, cap2, rfl⟩ := JL4.out.form
      exact ⟨⟨k + 1, by rw [HW.out], J4, JL4, HD2, AP4⟩, by simpa [lenV2] using ME.out⟩
    · have h1 : ¬ (1 : Int) < ((lv L k).length : Int) := by omega
      have hl1 : (lv L k).length = 1 := by omega
      have hk : k = dp L.length := by
        have := HD.out
        rw [hl1, dp_low 1 (by omega)] at this
        omega
      have HE := hide (show brL L p = brK L p k by unfold brL; rw [hk])
      clear hlt hle hwl hn hl1 hk hpos hx32
      generalize p / 2 ^ k = x1 at *
      go_wp2
      go_ret2
      exact ⟨u6, rfl, by rw [HE.out]; exact J.out⟩
end
end Go.Proofs.YthlaibkdcebekaaDoor
