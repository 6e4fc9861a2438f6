/- tx's parts: room, numbers, bytes, counts: their contracts. -/
import Derived.Test.YtkbfcfmjbgnhcaaKg
namespace Go.Proofs.Ytkbfcfmjbgnhcaa
open Go.RowKit
open Go.Deep
set_option linter.unusedVariables false
theorem takeC_on (t : ByteArray) (n c : Nat) (Y : List UInt8) (hn : n ≤ t.size) (hc : c ≤ 65535) (h : t.data.toList.drop n = countL c ++ Y) : takeC t (n : Int) = ((c : Int), ((n + (countL c).length : Nat) : Int), 0) ∧ n + (countL c).length ≤ t.size ∧ t.data.toList.drop (n + (countL c).length) = Y := by
  obtain ⟨_, h2, h3⟩ := rtake_on t n (countL c) Y hn h
  refine ⟨?_, h2, h3⟩
  have hat : ∀ x r, t.data.toList.drop n = x :: r → t.data.toList.getD n 0 = x := fun x r e => by
    have : (t.data.toList.drop n)[0]? = some x := by rw [e]; rfl
    rw [List.getElem?_drop, Nat.add_zero] at this
    rw [List.getD_eq_getElem?_getD, this]
    rfl
  unfold takeC
  by_cases h1 : c < 253
  · have e : countL c = [UInt8.ofNat (c % 256)] := by unfold countL; rw [if_pos h1]; rfl
    rw [e] at h h2 ⊢
    have hx := hat _ _ (by rw [h]; rfl)
    have hv : (UInt8.ofNat (c % 256)).toNat = c := by rw [UInt8.toNat_ofNat']; omega
    simp only [List.length_singleton] at h2 ⊢
    rw [Int.toNat_natCast, hx, hv, if_neg (by omega), if_neg (by omega), if_pos h1]
    rfl
  · have e : countL c = 253 :: lowL c 2 := by unfold countL; rw [if_neg h1, if_pos hc]
    rw [e] at h h2 ⊢
    have hx := hat _ _ (by rw [h]; rfl)
    have hv : (253 : UInt8).toNat = 253 := rfl
    have hd : t.data.toList.drop (n + 1) = lowL c 2 ++ Y := by rw [← List.drop_drop, h]; rfl
    have hl : leN ((t.data.toList.drop (n + 1)).take 2) = c := by
      rw [hd, List.take_append_of_le_length (by rw [lowL_len]; exact Nat.le_refl _), List.take_of_length_le (by rw [lowL_len]; exact Nat.le_refl _), leN_lowL 2 c (by omega)]
    have hcl : clong (c : Int) = 3 := by unfold clong; rw [if_neg (by omega), if_pos (by omega)]
    simp only [List.length_cons, lowL_len] at h2 ⊢
    rw [Int.toNat_natCast, hx, hv, if_neg (by omega), if_neg (by omega), if_neg (by omega)]
    simp only [if_true]
    rw [if_neg (by omega), hl, hcl, if_neg (by decide)]
    simp
    omega
/-- The error ahead of a count's own. -/
def cE (t : ByteArray) (n : Nat) (e most above : Int) : Int := rm n (ll t n) (if most < (takeC t n).1 then (if e = 0 then above else e) else e)
theorem tk_count (t : ByteArray) (n : Nat) (e : Int) (most : Nat) (above : Int) (hn : n ≤ t.size) (h4 : n ≤ 4096) (hm : most ≤ 4096) (ha : above ≠ 0) : ∃ c n' : Nat, (rcnt t n (cE t n e most above) most).1 = (n' : Int) ∧ (rcnt t n (cE t n e most above) most).2.2 = (c : Int) ∧ c ≤ most ∧ n' ≤ 4096 ∧ Tk countL (fun k => k ≤ most) t n e c n' (rcnt t n (cE t n e most above) most).2.1 := by
  by_cases h0 : (rcnt t n (cE t n e most above) most).2.1 = 0
  · have h0' := h0
    unfold rcnt at h0'
    by_cases g1 : cE t n e most above = 0
    · rw [if_neg (by simp [g1])] at h0'
      by_cases g2 : (takeC t n).2.2 = 0
      · rw [if_neg (by simp [g2])] at h0'
        by_cases g3 : (most : Int) < (takeC t n).1
        · rw [if_pos g3] at h0'; simp at h0'
        · obtain ⟨c, k1, k2, k3, k4, k5⟩ := takeC_inv t n hn g2
          obtain ⟨r1, r2⟩ := rm_zero g1
          rw [if_neg g3] at r1
          have er : rcnt t n (cE t n e most above) most = (((n + (countL c).length : Nat) : Int), 0, (c : Int)) := by
            unfold rcnt
            rw [if_neg (by simp [g1]), if_neg (by simp [g2]), if_neg g3, k1, k2]
          rw [er]
          refine ⟨c, n + (countL c).length, rfl, rfl, by omega, by omega, by omega, k3, fun _ => ⟨r1, k4, by show c ≤ most; omega, by omega⟩, fun y Y he ho hd hl => ?_⟩
          obtain ⟨q1, q2, q3⟩ := takeC_on t n y Y hn (by omega) hd
          have : c = y := by
            have := congrArg Prod.fst q1
            rw [k1] at this
            exact Int.ofNat.inj this
          subst this
          exact ⟨rfl, rfl, rfl⟩
      · rw [if_pos g2] at h0'; exact absurd h0' g2
    · rw [if_pos g1] at h0'; exact absurd h0' g1
  · have hp : (rcnt t n (cE t n e most above) most).1 = (n : Int) ∧ (rcnt t n (cE t n e most above) most).2.2 = ((0 : Nat) : Int) := by
      unfold rcnt at h0 ⊢
      by_cases g1 : cE t n e most above = 0
      · rw [if_neg (by simp [g1])] at h0 ⊢
        by_cases g2 : (takeC t n).2.2 = 0
        · rw [if_neg (by simp [g2])] at h0 ⊢
          by_cases g3 : (most : Int) < (takeC t n).1
          · rw [if_pos g3]; exact ⟨rfl, rfl⟩
          · rw [if_neg g3] at h0; simp at h0
        · rw [if_pos g2]; exact ⟨rfl, rfl⟩
      · rw [if_pos g1]; exact ⟨rfl, rfl⟩
    refine ⟨0, n, hp.1, hp.2, Nat.zero_le _, h4, Nat.le_refl _, hn, fun h => absurd h h0, fun y Y he ho hd hl => absurd ?_ h0⟩
    have ho' : y ≤ most := ho
    obtain ⟨q1, q2, q3⟩ := takeC_on t n y Y hn (by omega) hd
    obtain ⟨c, k1, k2, k3, k4, k5⟩ := takeC_inv t n hn (by rw [q1])
    have : c = y := by
      have := congrArg Prod.fst q1
      rw [k1] at this
      exact Int.ofNat.inj this
    subst this
    have e1 : cE t n e most above = 0 := by
      unfold cE
      rw [if_neg (by rw [k1]; omega), he]
      exact rm_ok (by rw [k5]; omega)
    unfold rcnt
    rw [e1, if_neg (by decide), q1, if_neg (by simp), if_neg (by simp; omega)]
/-- A reader within a transaction's bound. -/
structure Rd (w : World) (b : Nat) (t : ByteArray) (n : Nat) (e : Int) : Prop where
  le : n ≤ t.size
  lt : n ≤ 4096
  st : Rst w b t n e
def px (b : Nat) (t : ByteArray) : Value := .agg #[.string t, .pointer (some ⟨b, 0, none⟩)]
theorem Rd.below {w w' : World} {b : Nat} {t : ByteArray} {n : Nat} {e : Int} (h : Rd w b t n e) (hb : Below w.heap.size w w') : Rd w' b t n e := ⟨h.le, h.lt, h.st.below hb⟩
theorem APx : Arr 82 2 #[.string ⟨#[]⟩, .pointer none] := ⟨.inr ⟨_, Try.underlying82⟩, by kernel_rfl, fun w => by kernel_rfl, fun w => by kernel_rfl, rfl⟩
/-- What a call of a part's method begins with: its parts in a block of its own. -/
structure Px (w A : World) (b : Nat) (t : ByteArray) : Prop where
  fr : Rfr b w A
  row : A.heap[w.heap.size]? = some (.cells #[.string t, .pointer (some ⟨b, 0, none⟩)] 82 (0, 0))
  lt : b < w.heap.size
theorem Px.new {w : World} {b : Nat} {t : ByteArray} (h : b < w.heap.size) : Px w (w.alloc (.cells #[.string t, .pointer (some ⟨b, 0, none⟩)] 82)) b t := ⟨Rfr.below ((Below.refl _ _).alloc (Nat.le_refl _) _), heap_alloc_last w _, h⟩
theorem Px.step {w A A' : World} {b : Nat} {t : ByteArray} (h : Px w A b t) (f : Rfr b A A') : Px w A' b t := ⟨h.fr.trans f, (f.block _ (lt_heap h.row) (by have := h.lt; omega)).trans h.row, h.lt⟩
theorem Px.c0 {w A : World} {b : Nat} {t : ByteArray} (h : Px w A b t) : A.cell? ⟨w.heap.size, 0, none⟩ = some (.string t) := by rw [cell_of_row _ _ _ _ _ _ h.row]; rfl
theorem Px.c1 {w A : World} {b : Nat} {t : ByteArray} (h : Px w A b t) : A.cell? ⟨w.heap.size, 1, none⟩ = some (.pointer (some ⟨b, 0, none⟩)) := by rw [cell_of_row _ _ _ _ _ _ h.row]; rfl
section
set_option maxRecDepth 10000
set_option maxHeartbeats 4000000
variable {w : World} {b : Nat} {t : ByteArray} {n : Nat} {e : Int}
theorem room_any (k : Int) (h : Rd w b t n e) (h0 : 0 ≤ k) (h1 : k ≤ 100000) : Calls Try.prog 47 #[px b t, .int .i64 k] w fun r w' => r = .returned (.tuple #[]) ∧ Rd w' b t n (rm n k e) ∧ Rfr b w w' := by
  have P0 := hide (Px.new (t := t) h.st.lt)
  have c1 := P0.out.c1
  have b1 := (Below.refl w.heap.size w).alloc (Nat.le_refl _) (.cells #[.string t, .pointer (some ⟨b, 0, none⟩)] 82)
  have R0 := hide (h.below b1)
  have hlt := h.lt
  have e1 : IntKind.i64.wrap ((n : Int) + k) = n + k := wrapI _ (by omega) (by omega)
  have HA : Hid (∀ W, Rd W b t n e → Calls Try.prog 35 #[.pointer (some ⟨b, 0, none⟩)] W fun r w' => r = .returned (.int .i64 (n : Int)) ∧ w' = W) := fun W g => rAt b t W n e g.st
  have HF : Hid (∀ W, Rd W b t n e → Calls Try.prog 53 #[.pointer (some ⟨b, 0, none⟩), .int .i64 101] W fun r w' => r = .returned (.tuple #[]) ∧ Rd w' b t n (if e = 0 then 101 else e) ∧ Rfr b W w') := fun W g => (rFail b t W n e 101 g.st).mono fun r w' ⟨q1, q2, q3⟩ => ⟨q1, ⟨g.le, g.lt, q2⟩, q3⟩
  unfold px
  clear h b1 h0 h1 hlt
  by_cases hc : 4096 < (n : Int) + k
  · have EM : Hid (rm n k e = if e = 0 then 101 else e) := by show _ = _; unfold rm; rw [if_pos hc]
    have hc2 : (n : Int) + k > 4096 := hc
    clear hc
    generalize (if e = 0 then (101 : Int) else e) = e' at *
    go_enter Try.func47, Try.ntmps47
    go_wp2_with (first | (go_at_call 35; with_reducible refine (HA.out _ R0.out).mono ?_; rintro e1 w1 ⟨rfl, rfl⟩) | (go_at_call 53; with_reducible refine (HF.out _ R0.out).mono ?_; rintro e1 W2 ⟨rfl, g1, f1⟩; have R1 := hide g1; have P1 := hide (P0.out.step f1); clear g1 f1))
    go_end0
    exact ⟨rfl, by rw [EM.out]; exact R1.out, P1.out.fr⟩
  · have EM : Hid (rm n k e = e) := by show _ = _; unfold rm; rw [if_neg hc]
    have hc2 : decide ((n : Int) + k > 4096) = false := decide_eq_false (by omega)
    clear hc
    go_enter Try.func47, Try.ntmps47
    go_wp2_with (first | (go_at_call 35; with_reducible refine (HA.out _ R0.out).mono ?_; rintro e1 w1 ⟨rfl, rfl⟩))
    go_end0
    exact ⟨rfl, by rw [EM.out]; exact R0.out, P0.out.fr⟩
theorem tnumber_any (h : Rd w b t n e) (hs : t.size ≤ maxLen) : Calls Try.prog 42 #[px b t] w fun r w' => ∃ (v : UInt32) (n' : Nat) (e' : Int), r = .returned (.int .u32 (v.toNat : Int)) ∧ Rd w' b t n' e' ∧ Rfr b w w' ∧ Tk (fun v : UInt32 => lowL v.toNat 4) (fun _ => True) t n e v n' e' := by
  have P0 := hide (Px.new (t := t) h.st.lt)
  have b1 := (Below.refl w.heap.size w).alloc (Nat.le_refl _) (.cells #[.string t, .pointer (some ⟨b, 0, none⟩)] 82)
  have R0 := hide (h.below b1)
  have HM : Hid (∀ W, Rd W b t n e → Calls Try.prog 47 #[.agg #[.string t, .pointer (some ⟨b, 0, none⟩)], .int .i64 4] W fun r w' => r = .returned (.tuple #[]) ∧ Rd w' b t n (rm n 4 e) ∧ Rfr b W w') := fun W g => room_any 4 g (by omega) (by omega)
  obtain ⟨n', q1, q2, q3⟩ := tk_bytes t n 4 e h.le h.lt
  have hz := rtake_size t n (rm n 4 e) 4 4 rfl (by omega)
  have HU : Hid (∀ W, Rd W b t n (rm n 4 e) → Calls Try.prog 48 #[.pointer (some ⟨b, 0, none⟩)] W fun r w' => r = .returned (.int .u32 ((n32 (rtake t n (rm n 4 e) 4).2.2).toNat : Int)) ∧ Rd w' b t n' (rtake t n (rm n 4 e) 4).2.1 ∧ Rfr b W w') := fun W g => (rU32 b t W n (rm n 4 e) g.st hs (by omega) (by have := g.le; omega)).mono fun r w' ⟨k1, k2, k3⟩ => ⟨by rw [n32_nat _ hz]; exact k1, ⟨q3.hi, q2, by have q1' : (rtake t n (rm n 4 e) 4).1 = (n' : Int) := q1; rw [q1'] at k2; exact k2⟩, k3⟩
  have TK := hide q3.n32
  unfold px
  clear h b1 q1 q2 q3 hz hs
  generalize n32 (rtake t n (rm n 4 e) ((4 : Nat) : Int)).2.2 = v at *
  generalize (rtake t n (rm n 4 e) ((4 : Nat) : Int)).2.1 = e' at *
  generalize rm n 4 e = e2 at *
  go_enter Try.func42, Try.ntmps42
  go_upto_region 2 with (first | (go_at_call 47; with_reducible refine (HM.out _ R0.out).mono ?_; rintro e1 W2 ⟨rfl, g1, f1⟩; have R1 := hide g1; have P1 := hide (P0.out.step f1); clear g1 f1) | ((with_reducible refine at_list ?_); refine wpList_loadS APx _ rfl w.heap.size rfl #[.string t, .pointer (some ⟨b, 0, none⟩)] rfl 82 P0.out.row (by rfl) ?_))
  have c1 := P1.out.c1
  go_wp2_with (go_at_call 48; with_reducible refine (HU.out _ R1.out).mono ?_; rintro e1 W3 ⟨rfl, g1, f1⟩; have R2 := hide g1; have P2 := hide (P1.out.step f1); clear g1 f1)
  go_ret
  exact ⟨v, n', e', rfl, R2.out, P2.out.fr, TK.out⟩
theorem tvalue_any (h : Rd w b t n e) (hs : t.size ≤ maxLen) : Calls Try.prog 52 #[px b t] w fun r w' => ∃ (v : UInt64) (n' : Nat) (e' : Int), r = .returned (.int .u64 (v.toNat : Int)) ∧ Rd w' b t n' e' ∧ Rfr b w w' ∧ Tk (fun v : UInt64 => lowL v.toNat 8) (fun _ => True) t n e v n' e' := by
  have P0 := hide (Px.new (t := t) h.st.lt)
  have b1 := (Below.refl w.heap.size w).alloc (Nat.le_refl _) (.cells #[.string t, .pointer (some ⟨b, 0, none⟩)] 82)
  have R0 := hide (h.below b1)
  have HM : Hid (∀ W, Rd W b t n e → Calls Try.prog 47 #[.agg #[.string t, .pointer (some ⟨b, 0, none⟩)], .int .i64 8] W fun r w' => r = .returned (.tuple #[]) ∧ Rd w' b t n (rm n 8 e) ∧ Rfr b W w') := fun W g => room_any 8 g (by omega) (by omega)
  obtain ⟨n', q1, q2, q3⟩ := tk_bytes t n 8 e h.le h.lt
  have hz := rtake_size t n (rm n 8 e) 8 8 rfl (by omega)
  have HU : Hid (∀ W, Rd W b t n (rm n 8 e) → Calls Try.prog 60 #[.pointer (some ⟨b, 0, none⟩)] W fun r w' => r = .returned (.int .u64 ((n64 (rtake t n (rm n 8 e) 8).2.2).toNat : Int)) ∧ Rd w' b t n' (rtake t n (rm n 8 e) 8).2.1 ∧ Rfr b W w') := fun W g => (rU64 b t W n (rm n 8 e) g.st hs (by omega) (by have := g.le; omega)).mono fun r w' ⟨k1, k2, k3⟩ => ⟨by rw [n64_nat _ hz]; exact k1, ⟨q3.hi, q2, by have q1' : (rtake t n (rm n 8 e) 8).1 = (n' : Int) := q1; rw [q1'] at k2; exact k2⟩, k3⟩
  have TK := hide q3.n64
  unfold px
  clear h b1 q1 q2 q3 hz hs
  generalize n64 (rtake t n (rm n 8 e) ((8 : Nat) : Int)).2.2 = v at *
  generalize (rtake t n (rm n 8 e) ((8 : Nat) : Int)).2.1 = e' at *
  generalize rm n 8 e = e2 at *
  go_enter Try.func52, Try.ntmps52
  go_upto_region 2 with (first | (go_at_call 47; with_reducible refine (HM.out _ R0.out).mono ?_; rintro e1 W2 ⟨rfl, g1, f1⟩; have R1 := hide g1; have P1 := hide (P0.out.step f1); clear g1 f1) | ((with_reducible refine at_list ?_); refine wpList_loadS APx _ rfl w.heap.size rfl #[.string t, .pointer (some ⟨b, 0, none⟩)] rfl 82 P0.out.row (by rfl) ?_))
  have c1 := P1.out.c1
  go_wp2_with (go_at_call 60; with_reducible refine (HU.out _ R1.out).mono ?_; rintro e1 W3 ⟨rfl, g1, f1⟩; have R2 := hide g1; have P2 := hide (P1.out.step f1); clear g1 f1)
  go_ret
  exact ⟨v, n', e', rfl, R2.out, P2.out.fr, TK.out⟩
theorem tbytes_any (k : Nat) (hk : k ≤ 1000) (h : Rd w b t n e) (hs : t.size ≤ maxLen) : Calls Try.prog 59 #[px b t, .int .i64 (k : Int)] w fun r w' => ∃ (v : ByteArray) (n' : Nat) (e' : Int), r = .returned (.string v) ∧ (v.size = k ∨ v = ⟨#[]⟩) ∧ Rd w' b t n' e' ∧ Rfr b w w' ∧ Tk (fun x : ByteArray => x.data.toList) (fun x => x.size = k) t n e v n' e' := by
  have P0 := hide (Px.new (t := t) h.st.lt)
  have b1 := (Below.refl w.heap.size w).alloc (Nat.le_refl _) (.cells #[.string t, .pointer (some ⟨b, 0, none⟩)] 82)
  have R0 := hide (h.below b1)
  have HM : Hid (∀ W, Rd W b t n e → Calls Try.prog 47 #[.agg #[.string t, .pointer (some ⟨b, 0, none⟩)], .int .i64 (k : Int)] W fun r w' => r = .returned (.tuple #[]) ∧ Rd w' b t n (rm n k e) ∧ Rfr b W w') := fun W g => room_any k g (by omega) (by omega)
  obtain ⟨n', q1, q2, q3⟩ := tk_bytes t n k e h.le h.lt
  have HU : Hid (∀ W, Rd W b t n (rm n k e) → Calls Try.prog 63 #[.pointer (some ⟨b, 0, none⟩), .int .i64 (k : Int)] W fun r w' => r = .returned (.string (rtake t n (rm n k e) k).2.2) ∧ Rd w' b t n' (rtake t n (rm n k e) k).2.1 ∧ Rfr b W w') := fun W g => (rBytes b t W n (rm n k e) k g.st hs (by omega) (by have := g.le; omega) (by omega)).mono fun r w' ⟨k1, k2, k3⟩ => ⟨k1, ⟨q3.hi, q2, by rw [q1] at k2; exact k2⟩, k3⟩
  have TK := hide q3
  have SZ : Hid ((rtake t n (rm n k e) k).2.2.size = k ∨ (rtake t n (rm n k e) k).2.2 = ⟨#[]⟩) := by
    by_cases g : (rtake t n (rm n k e) k).2.1 = 0
    · exact .inl (q3.sound g).2.2.1
    · exact .inr (rtake_err _ _ _ _ g).2
  unfold px
  clear h b1 q1 q2 q3 hs hk
  generalize (rtake t n (rm n k e) (k : Int)).2.2 = v at *
  generalize (rtake t n (rm n k e) (k : Int)).2.1 = e' at *
  generalize rm n k e = e2 at *
  go_enter Try.func59, Try.ntmps59
  go_upto_region 2 with (first | (go_at_call 47; with_reducible refine (HM.out _ R0.out).mono ?_; rintro e1 W2 ⟨rfl, g1, f1⟩; have R1 := hide g1; have P1 := hide (P0.out.step f1); clear g1 f1) | ((with_reducible refine at_list ?_); refine wpList_loadS APx _ rfl w.heap.size rfl #[.string t, .pointer (some ⟨b, 0, none⟩)] rfl 82 P0.out.row (by rfl) ?_))
  have c1 := P1.out.c1
  go_wp2_with (go_at_call 63; with_reducible refine (HU.out _ R1.out).mono ?_; rintro e1 W3 ⟨rfl, g1, f1⟩; have R2 := hide g1; have P2 := hide (P1.out.step f1); clear g1 f1)
  go_ret
  exact ⟨v, n', e', rfl, SZ.out, R2.out, P2.out.fr, TK.out⟩
theorem least_any (x : ByteArray) (w : World) : Calls Try.prog 57 #[.string x] w fun r w' => r = .returned (.int .i64 (ll x 0)) ∧ w' = w := by
  by_cases h0 : x.size = 0
  · have hx : x = ⟨#[]⟩ := ByteArray.ext (Array.eq_empty_of_size_eq_zero h0)
    subst hx
    have hl : ll ⟨#[]⟩ 0 = 1 := by decide
    rw [hl]
    go_enter Try.func57, Try.ntmps57
    go_wp2
    go_ret
    exact ⟨rfl, rfl⟩
  · have hp : 0 < x.size := by omega
    have hne : x.toList.isEmpty = false := by
      rw [ByteArray.toList_eq]
      cases hx : x.data.toList with
      | nil => exact absurd (by have := congrArg List.length hx; simpa using this) h0
      | cons a r => rfl
    have hl : ll x 0 = if x[0].toNat = 253 then 3 else if x[0].toNat = 254 then 5 else if x[0].toNat = 255 then 9 else 1 := by
      unfold ll
      rw [if_neg (by omega), getD_at x 0 hp]
    have HL := hide hl
    clear hl h0
    go_enter Try.func57, Try.ntmps57
    go_wp2
    all_goals go_ret
    all_goals (refine ⟨?_, rfl⟩; rw [HL.out]; refine ret_int ?_; simp only [beq_iff_eq, beq_eq_false_iff_ne, ne_eq] at *; repeat' split)
    all_goals omega
end
theorem ll_ext (t : ByteArray) (n : Nat) (h : n ≤ t.size) : ll (t.extract n t.size) 0 = ll t n := by
  have e1 : (t.extract n t.size).data.toList = t.data.toList.drop n := ext_list t n
  have e2 : (t.extract n t.size).size = t.size - n := by simp
  unfold ll
  rw [e1, e2, List.getD_eq_getElem?_getD, List.getD_eq_getElem?_getD, List.getElem?_drop, Nat.add_zero]
  by_cases q : t.size ≤ n
  · rw [if_pos (by omega), if_pos q]
  · rw [if_neg (by omega), if_neg q]
theorem ll_le (t : ByteArray) (n : Nat) : 0 ≤ ll t n ∧ ll t n ≤ 9 := by unfold ll; repeat' split <;> omega
section
set_option maxRecDepth 10000
set_option maxHeartbeats 4000000
variable {w : World} {b : Nat} {t : ByteArray} {n : Nat} {e : Int}
theorem tcount_any (most : Nat) (hm : most ≤ 4096) (above : Int) (ha : above ≠ 0) (h : Rd w b t n e) (hs : t.size ≤ maxLen) : Calls Try.prog 49 #[px b t, .int .u64 (most : Int), .int .i64 above] w fun r w' => ∃ (c n' : Nat) (e' : Int), r = .returned (.int .i64 (c : Int)) ∧ c ≤ most ∧ Rd w' b t n' e' ∧ Rfr b w w' ∧ Tk countL (fun k => k ≤ most) t n e c n' e' := by
  have P0 := hide (Px.new (t := t) h.st.lt)
  have b1 := (Below.refl w.heap.size w).alloc (Nat.le_refl _) (.cells #[.string t, .pointer (some ⟨b, 0, none⟩)] 82)
  have R0 := hide (h.below b1)
  have c0 := P0.out.c0
  have c1 := P0.out.c1
  obtain ⟨c, n', q1, q2, q3, q4, q5⟩ := tk_count t n e most above h.le h.lt hm ha
  have HA : Hid (∀ W e, Rd W b t n e → Calls Try.prog 35 #[.pointer (some ⟨b, 0, none⟩)] W fun r w' => r = .returned (.int .i64 (n : Int)) ∧ w' = W) := fun W e g => rAt b t W n e g.st
  have HT : Hid (∀ W, Calls Try.prog 56 #[.string t, .int .i64 (n : Int)] W fun e w' => e = .returned (.tuple #[.int .u64 (takeC t n).1, .int .i64 (takeC t n).2.1, .int .i64 (takeC t n).2.2]) ∧ w' = W) := fun W => takeCount_any t n W hs
  have HF : Hid (∀ W e, Rd W b t n e → Calls Try.prog 53 #[.pointer (some ⟨b, 0, none⟩), .int .i64 above] W fun r w' => r = .returned (.tuple #[]) ∧ Rd w' b t n (if e = 0 then above else e) ∧ Rfr b W w') := fun W e g => (rFail b t W n e above g.st).mono fun r w' ⟨q1, q2, q3⟩ => ⟨q1, ⟨g.le, g.lt, q2⟩, q3⟩
  have HE : Hid (∀ W, Calls Try.prog 57 #[.string (t.extract n t.size)] W fun r w' => r = .returned (.int .i64 (ll t n)) ∧ w' = W) := fun W => by
    have := least_any (t.extract n t.size) W
    rwa [ll_ext t n h.le] at this
  have HM : Hid (∀ W e, Rd W b t n e → Calls Try.prog 47 #[.agg #[.string t, .pointer (some ⟨b, 0, none⟩)], .int .i64 (ll t n)] W fun r w' => r = .returned (.tuple #[]) ∧ Rd w' b t n (rm n (ll t n) e) ∧ Rfr b W w') := fun W e g => room_any _ g (ll_le t n).1 (by have := (ll_le t n).2; omega)
  have HC : Hid (∀ W, Rd W b t n (cE t n e most above) → Calls Try.prog 58 #[.pointer (some ⟨b, 0, none⟩), .int .u64 (most : Int)] W fun r w' => r = .returned (.int .u64 (c : Int)) ∧ Rd w' b t n' (rcnt t n (cE t n e most above) most).2.1 ∧ Rfr b W w') := fun W g => (rCount b t W n (cE t n e most above) most g.st hs (by omega) (by have := g.le; omega) (by omega)).mono fun r w' ⟨k1, k2, k3⟩ => ⟨by rw [q2] at k1; exact k1, ⟨q5.hi, q4, by rw [q1] at k2; exact k2⟩, k3⟩
  have TK := hide q5
  have CM := hide q3
  have e5 : IntKind.i64.wrap (c : Int) = c := wrapI _ (by omega) (by omega)
  have NT := hide h.le
  have g1 : (0 : Int) ≤ (n : Int) := by omega
  have g2 : (n : Int) ≤ (t.size : Int) := by have := h.le; omega
  unfold px cE at *
  clear h b1 q1 q2 q3 q4 q5 hm ha
  have HD : Hid (∀ q, Rd ((w.alloc (.cells #[.string t, .pointer (some ⟨b, 0, none⟩)] 82)).drewN q) b t n e) := fun q => ⟨R0.out.le, R0.out.lt, R0.out.st.drewN q⟩
  generalize hA : w.alloc (.cells #[.string t, .pointer (some ⟨b, 0, none⟩)] 82) = A at *
  go_enter Try.func49, Try.ntmps49
  go_upto_region 1 with fail
  clear hA
  go_quiet (first | (go_at_call 35; exact Calls.quiet_of_same (HA.out _ e (by first | exact R0.out | exact HD.out _))) | (go_at_call 56; exact Calls.quiet_of_same (HT.out _)))
  have R1 := hide (HD.out nq)
  have P1 := hide (P0.out.step (Rfr.drewN b A nq))
  clear R0 P0 HD HT c0 c1
  generalize A.drewN nq = W1 at *
  have c1 := P1.out.c1
  by_cases hc : (most : Int) < (takeC t n).1
  case' pos =>
    rw [if_pos hc] at HC TK
    have HF2 := hide (fun W => HF.out W e)
    generalize (if e = 0 then above else e) = e1 at *
    have hc2 : (takeC t n).1 > (most : Int) := hc
    clear hc
    generalize (takeC t n).1 = k1 at *
    generalize (takeC t n).2.1 = k2 at *
    generalize (takeC t n).2.2 = k3 at *
    go_upto_region 4 with (go_at_call 53; refine (HF2.out _ R1.out).mono ?_; rintro r W2 ⟨rfl, g1, f1⟩; have R2 := hide g1; have P2 := hide (P1.out.step f1); clear g1 f1)
    clear hc2
  case' neg =>
    rw [if_neg hc] at HC TK
    have hc2 : decide ((takeC t n).1 > (most : Int)) = false := decide_eq_false (by omega)
    clear hc
    generalize (takeC t n).1 = k1 at *
    generalize (takeC t n).2.1 = k2 at *
    generalize (takeC t n).2.2 = k3 at *
    go_upto_region 4 with fail
    clear hc2
    obtain ⟨W2, hW2⟩ : ∃ x, x = W1 := ⟨_, rfl⟩
    subst hW2
    have R2 := R1
    have P2 := P1
  all_goals
    clear c1 R1 P1
    refine wp_region_held_drew (S := fun W => Rfr b W2 W) (by kernel_rfl) (Rfr.drew b W2) (fun hH => ?_)
    have R3 := hide (show Rd W2.drew b t n _ from ⟨R2.out.le, R2.out.lt, R2.out.st⟩)
    have F3 := hide (Rfr.drew b W2)
    generalize W2.drew = W3 at *
    refine wpAnyH_take (i := 0) (v := (.agg #[.string t, .pointer (some ⟨b, 0, none⟩)])) rfl (by kernel_rfl) (by kernel_rfl) (by kernel_rfl) (fun _ _ _ h => h) (yl_load (by rfl) _ (by rfl) _ #[.string t, .pointer (some ⟨b, 0, none⟩)] (by rfl) (fun W hS => ld_row APx rfl (P2.out.step hS).row)) hH ?_
    change wpAnyH _ _ _ _ _ _ _ (Act.put _ (some 27) _) _
    simp only [Act.put, List.setIfInBounds_toArray, List.set_cons_zero, List.set_cons_succ]
    refine wpAnyH_take (i := 1) (v := (.pointer (some ⟨w.heap.size, 0, none⟩))) rfl (by kernel_rfl) (by kernel_rfl) (by kernel_rfl) (fun _ _ _ h => h) (.inl ⟨by rfl, fun W _ => by go_simp⟩) hH ?_
    change wpAnyH _ _ _ _ _ _ _ (Act.put _ (some 28) _) _
    simp only [Act.put, List.setIfInBounds_toArray, List.set_cons_zero, List.set_cons_succ]
    refine wpAnyH_take (i := 2) (v := (.string t)) rfl (by kernel_rfl) (by kernel_rfl) (by kernel_rfl) (fun _ _ _ h => h) (.inl ⟨by rfl, fun W hS => by have c4 := (P2.out.step hS).c0; go_simp⟩) hH ?_
    change wpAnyH _ _ _ _ _ _ _ (Act.put _ (some 29) _) _
    simp only [Act.put, List.setIfInBounds_toArray, List.set_cons_zero, List.set_cons_succ]
    refine wpAnyH_take (i := 3) (v := (.pointer (some ⟨w.heap.size, 1, none⟩))) rfl (by kernel_rfl) (by kernel_rfl) (by kernel_rfl) (fun _ _ _ h => h) (.inl ⟨by rfl, fun W _ => by go_simp⟩) hH ?_
    change wpAnyH _ _ _ _ _ _ _ (Act.put _ (some 30) _) _
    simp only [Act.put, List.setIfInBounds_toArray, List.set_cons_zero, List.set_cons_succ]
    refine wpAnyH_take (i := 4) (v := (.pointer (some ⟨b, 0, none⟩))) rfl (by kernel_rfl) (by kernel_rfl) (by kernel_rfl) (fun _ _ _ h => h) (.inl ⟨by rfl, fun W hS => by have c4 := (P2.out.step hS).c1; go_simp⟩) hH ?_
    change wpAnyH _ _ _ _ _ _ _ (Act.put _ (some 31) _) _
    simp only [Act.put, List.setIfInBounds_toArray, List.set_cons_zero, List.set_cons_succ]
    refine wpAnyH_ready (rs := [5]) (by kernel_rfl) (by simp) (AllReadyH.cons rfl (fun K1 hK1 => ?_) AllReadyH.nil)
    go_simp
    refine (HA.out _ _ R3.out).mono ?_
    rintro r W4 ⟨rfl, rfl⟩
    refine hK1.out _ _ F3.out (fun hH => ?_)
    clear hK1
    refine wpAnyH_take (i := 6) (v := (.string (t.extract n t.size))) rfl (by kernel_rfl) (by kernel_rfl) (by kernel_rfl) (fun _ _ _ h => h) (.inl ⟨by rfl, fun W _ => by go_simp⟩) hH ?_
    change wpAnyH _ _ _ _ _ _ _ (Act.put _ (some 33) _) _
    simp only [Act.put, List.setIfInBounds_toArray, List.set_cons_zero, List.set_cons_succ]
    refine wpAnyH_ready (rs := [7]) (by kernel_rfl) (by simp) (AllReadyH.cons rfl (fun K1 hK1 => ?_) AllReadyH.nil)
    go_simp
    refine (HE.out _).mono ?_
    rintro r W4 ⟨rfl, rfl⟩
    refine hK1.out _ _ F3.out (fun hH => ?_)
    clear hK1
    refine wpAnyH_ready (rs := [8]) (by kernel_rfl) (by simp) (AllReadyH.cons rfl (fun K1 hK1 => ?_) AllReadyH.nil)
    go_simp
    refine (HM.out _ _ R3.out).mono ?_
    rintro r W5 ⟨rfl, g3, f3⟩
    have R4 := hide g3
    have P4 := hide (P2.out.step (F3.out.trans f3))
    refine hK1.out _ _ (F3.out.trans f3) (fun hH => ?_)
    clear hK1
    refine wpAnyH_done (by kernel_rfl) ?_ _
    clear hH g3 f3 F3 R3 R2 P2 HA HE HM HF
    have c1 := P4.out.c1
    go_wp2_with (go_at_call 58; refine (HC.out _ R4.out).mono ?_; rintro r W6 ⟨rfl, g3, f3⟩; have R5 := hide g3; have P5 := hide (P4.out.step f3); clear g3 f3)
    go_ret
    exact ⟨c, n', _, rfl, CM.out, R5.out, P5.out.fr, TK.out⟩
end
end Go.Proofs.Ytkbfcfmjbgnhcaa
