/- The contracts of num.Reader's Big16, Count, Bytes, String, Bool, End and Hash. -/
import Derived.Test.YtnmffnefkokkeaaL
namespace Go.Proofs.Ytnmffnefkokkeaa
open Go.RowKit

/-- What a count is read as: the place, the error, the number. -/
def rcnt (s : ByteArray) (p err most : Int) : Int × Int × Int :=
  if err ≠ 0 then (p, err, 0) else if (takeC s p).2.2 ≠ 0 then (p, (takeC s p).2.2, 0) else if most < (takeC s p).1 then (p, 5, 0) else ((takeC s p).2.1, 0, (takeC s p).1)
/-- What is known of a count that was taken. -/
theorem takeC_facts (s : ByteArray) (p : Int) (h0 : 0 ≤ p) (h1 : p ≤ s.size) : 0 ≤ (takeC s p).1 ∧ (takeC s p).1 < 18446744073709551616 ∧ ((takeC s p).2.2 ≠ 0 → (takeC s p).1 = 0) ∧ ((takeC s p).2.2 = 0 → p ≤ (takeC s p).2.1 ∧ (takeC s p).2.1 ≤ s.size) := by
  obtain ⟨k, rfl⟩ := Int.eq_ofNat_of_zero_le h0
  by_cases he : k = s.size
  · subst he; rw [takeC_end]; simp
  have hlt : k < s.size := by omega
  have hb := s[k].toNat_lt
  by_cases h3 : s[k].toNat < 253
  · rw [takeC_one s k hlt h3]
    exact ⟨by show (0 : Int) ≤ s[k].toNat; omega, by show (s[k].toNat : Int) < _; omega, fun h => absurd rfl h, fun _ => ⟨by show (k : Int) ≤ k + 1; omega, by show (k : Int) + 1 ≤ s.size; omega⟩⟩
  obtain ⟨long, hl, hl8⟩ : ∃ long : Nat, ((s[k].toNat = 253 ∧ long = 2) ∨ (s[k].toNat = 254 ∧ long = 4) ∨ (s[k].toNat = 255 ∧ long = 8)) ∧ long ≤ 8 := by
    rcases (show s[k].toNat = 253 ∨ s[k].toNat = 254 ∨ s[k].toNat = 255 by omega) with e | e | e
    · exact ⟨2, .inl ⟨e, rfl⟩, by omega⟩
    · exact ⟨4, .inr (.inl ⟨e, rfl⟩), by omega⟩
    · exact ⟨8, .inr (.inr ⟨e, rfl⟩), by omega⟩
  by_cases hc : s.size - k - 1 < long
  · rw [takeC_cut s k long hlt hl hc]; simp
  by_cases hf : clong (numAt s k long) = 1 + long
  · rw [takeC_ok s k long hlt hl hc hf]
    have := (numAt_lt s k long hl8).lt
    exact ⟨by show (0 : Int) ≤ numAt s k long; omega, by show (numAt s k long : Int) < _; omega, fun h => absurd rfl h, fun _ => ⟨by show (k : Int) ≤ k + 1 + long; omega, by show (k : Int) + 1 + long ≤ s.size; omega⟩⟩
  · rw [takeC_form s k long hlt hl hc hf]; simp
theorem rcnt_inv (s : ByteArray) (p err most : Int) (h0 : 0 ≤ p) (h1 : p ≤ s.size) : 0 ≤ (rcnt s p err most).1 ∧ (rcnt s p err most).1 ≤ s.size ∧ 0 ≤ (rcnt s p err most).2.2 ∧ (rcnt s p err most).2.2 < 18446744073709551616 ∧ ((rcnt s p err most).2.1 = 0 → (rcnt s p err most).2.2 ≤ most) ∧ ((rcnt s p err most).2.1 ≠ 0 → (rcnt s p err most).2.2 = 0 ∧ (rcnt s p err most).1 = p) := by
  obtain ⟨f1, f2, f3, f4⟩ := takeC_facts s p h0 h1
  unfold rcnt
  split
  · rename_i he; exact ⟨h0, h1, by simp, by simp, fun h => absurd h he, fun _ => ⟨rfl, rfl⟩⟩
  · split
    · rename_i he; exact ⟨h0, h1, by simp, by simp, fun h => absurd h he, fun _ => ⟨rfl, rfl⟩⟩
    · split
      · exact ⟨h0, h1, by simp, by simp, fun h => absurd h (show ¬ (5 : Int) = 0 by decide), fun _ => ⟨rfl, rfl⟩⟩
      · rename_i he hm
        have := f4 (by simpa using he)
        exact ⟨by show 0 ≤ (takeC s p).2.1; omega, this.2, f1, f2, fun _ => by show (takeC s p).1 ≤ most; omega, fun h => absurd rfl h⟩

section
variable (b : Nat) (s : ByteArray) (w : World)
set_option maxRecDepth 10000
theorem rCount (p err most : Int) (h : Rst w b s p err) (hs : s.size ≤ maxLen) (h0 : 0 ≤ p) (h1 : p ≤ s.size) (hm : 0 ≤ most) : Calls Try.prog 40 #[.pointer (some ⟨b, 0, none⟩), .int .u64 most] w fun e w' => e = .returned (.int .u64 (rcnt s p err most).2.2) ∧ Rst w' b s (rcnt s p err most).1 (rcnt s p err most).2.1 ∧ Rfr b w w' := by
  by_cases he : err = 0
  · subst he
    obtain ⟨f1, f2, f3, f4⟩ := takeC_facts s p h0 h1
    have ht := fun w => takeCount_any s p w hs
    unfold rcnt
    rw [if_neg (by simp)]
    generalize takeC s p = T at *
    obtain ⟨t1, t2, t3⟩ := T
    simp only [tc] at *
    have HT := hide ht
    have hc0 := h.c0
    have hc1 := h.c1
    have hf1 := h.f 1
    have hf2 := h.f 2
    have hc2 := h.c2
    clear ht f4
    by_cases h3 : t3 = 0
    · subst h3
      rw [if_neg (by simp)]
      by_cases h4 : most < t1
      · rw [if_pos h4]
        clear f3
        go_enter Try.func40, Try.ntmps40
        go_wp2_with fail
        refine (rErr b s _ p 0 h).mono ?_
        rintro e w1 ⟨rfl, rfl⟩
        go_wp2
        go_quiet ((go_at_call 8; exact Calls.quiet_of_same (HT.out _)))
        go_wp2
        go_ret
        exact ⟨rfl, (h.drewN _).set2 _, (Rfr.drewN b _ _).trans (Rfr.setCell _ _ _ _)⟩
      · rw [if_neg h4]
        clear f3
        go_enter Try.func40, Try.ntmps40
        go_wp2_with fail
        refine (rErr b s _ p 0 h).mono ?_
        rintro e w1 ⟨rfl, rfl⟩
        go_wp2
        go_quiet ((go_at_call 8; exact Calls.quiet_of_same (HT.out _)))
        go_wp2
        go_ret
        exact ⟨rfl, (h.drewN _).set1 _, (Rfr.drewN b _ _).trans (Rfr.setCell _ _ _ _)⟩
    · rw [if_pos h3]
      have ht1 : t1 = 0 := f3 h3
      subst ht1
      have h3' : (t3 != 0) = true := by simp [h3]
      clear f3 h3
      go_enter Try.func40, Try.ntmps40
      go_wp2_with fail
      refine (rErr b s _ p 0 h).mono ?_
      rintro e w1 ⟨rfl, rfl⟩
      go_wp2
      go_quiet ((go_at_call 8; exact Calls.quiet_of_same (HT.out _)))
      go_wp2
      go_ret
      exact ⟨rfl, (h.drewN _).set2 _, (Rfr.drewN b _ _).trans (Rfr.setCell _ _ _ _)⟩
  · have hr : rcnt s p err most = (p, err, 0) := by unfold rcnt; rw [if_pos he]
    rw [hr]
    have he' : (err != 0) = true := by simp [he]
    clear he hr
    go_enter Try.func40, Try.ntmps40
    go_wp2_with (go_at_call 26; refine (rErr b s _ p err h).mono ?_; rintro e w1 ⟨rfl, rfl⟩)
    go_ret
    exact ⟨rfl, h, Rfr.refl _ _⟩
theorem rBytes (p err n : Int) (h : Rst w b s p err) (hs : s.size ≤ maxLen) (h0 : 0 ≤ p) (h1 : p ≤ s.size) (hn2 : n ≤ 9223372036854775807) : Calls Try.prog 41 #[.pointer (some ⟨b, 0, none⟩), .int .i64 n] w fun e w' => e = .returned (.string (rtake s p err n).2.2) ∧ Rst w' b s (rtake s p err n).1 (rtake s p err n).2.1 ∧ Rfr b w w' := by
  by_cases hn : n < 0
  · have hr : rtake s p err n = (p, if err = 0 then 1 else err, ⟨#[]⟩) := by
      unfold rtake
      by_cases he : err = 0
      · rw [if_neg (by simp [he]), if_pos hn, if_pos he]
      · rw [if_pos he, if_neg he]
    rw [hr]
    have HF := hide fun w h => rFail b s w p err 1 h
    generalize (if err = 0 then 1 else err : Int) = E at *
    go_enter Try.func41, Try.ntmps41
    go_wp2_with (go_at_call 34; refine (HF.out _ h).mono ?_; rintro e w1 ⟨rfl, hr, hf⟩)
    go_ret
    exact ⟨rfl, hr, hf⟩
  · have HT := hide fun w h => rTake b s w p err n h hs h0 h1 (by omega) hn2
    generalize rtake s p err n = R at *
    go_enter Try.func41, Try.ntmps41
    go_wp2_with (go_at_call 70; refine (HT.out _ h).mono ?_; rintro e w1 ⟨rfl, hr, hf⟩)
    go_ret
    exact ⟨rfl, hr, hf⟩
/-- What a text is read as: a count and so many bytes. -/
def rstr (s : ByteArray) (p err most : Int) : Int × Int × ByteArray :=
  if err ≠ 0 then (p, err, ⟨#[]⟩) else if most < 0 then (p, 1, ⟨#[]⟩) else
  if (rcnt s p err most).2.1 ≠ 0 then (p, (rcnt s p err most).2.1, ⟨#[]⟩) else
  if (rtake s (rcnt s p err most).1 0 (rcnt s p err most).2.2).2.1 ≠ 0 then (p, (rtake s (rcnt s p err most).1 0 (rcnt s p err most).2.2).2.1, ⟨#[]⟩) else
  rtake s (rcnt s p err most).1 0 (rcnt s p err most).2.2
theorem rString (p err most : Int) (h : Rst w b s p err) (hs : s.size ≤ maxLen) (h0 : 0 ≤ p) (h1 : p ≤ s.size) (hn2 : most ≤ 9223372036854775807) : Calls Try.prog 42 #[.pointer (some ⟨b, 0, none⟩), .int .i64 most] w fun e w' => e = .returned (.string (rstr s p err most).2.2) ∧ Rst w' b s (rstr s p err most).1 (rstr s p err most).2.1 ∧ Rfr b w w' := by
  by_cases hn : most < 0
  · have hr : rstr s p err most = (p, if err = 0 then 1 else err, ⟨#[]⟩) := by
      unfold rstr
      by_cases he : err = 0
      · rw [if_neg (by simp [he]), if_pos hn, if_pos he]
      · rw [if_pos he, if_neg he]
    rw [hr]
    have HF := hide fun w h => rFail b s w p err 1 h
    generalize (if err = 0 then 1 else err : Int) = E at *
    go_enter Try.func42, Try.ntmps42
    go_wp2_with (go_at_call 34; refine (HF.out _ h).mono ?_; rintro e w1 ⟨rfl, hr, hf⟩)
    go_ret
    exact ⟨rfl, hr, hf⟩
  by_cases he : err = 0
  · subst he
    have hm0 : 0 ≤ most := by omega
    obtain ⟨i1, i2, i3, i4, i5, i6⟩ := rcnt_inv s p 0 most h0 h1
    have HC := hide fun w h => rCount b s w p 0 most h hs h0 h1 hm0
    have HT := hide fun w h => rTake b s w (rcnt s p 0 most).1 (rcnt s p 0 most).2.1 (rcnt s p 0 most).2.2 h hs i1 i2 i3
    have hc1 := h.c1
    unfold rstr
    rw [if_neg (by simp), if_neg hn]
    generalize rcnt s p 0 most = R at *
    obtain ⟨r1, r2, r3⟩ := R
    dsimp only at *
    have hu : IntKind.u64.wrap most = most := wrapu _ hm0 (by omega)
    by_cases hr2 : r2 = 0
    · subst hr2
      have i7 : r3 ≤ most := i5 rfl
      have hu3 : IntKind.i64.wrap r3 = r3 := wrap_small _ i3 (by omega)
      rw [if_neg (by simp)]
      have hi := rtake_inv s r1 0 r3 i1 i2
      have hem : (rtake s r1 0 r3).2.1 ≠ 0 → (rtake s r1 0 r3).2.2 = ⟨#[]⟩ := by
        intro hne
        unfold rtake at hne ⊢
        rw [if_neg (by simp), if_neg (by omega)] at hne ⊢
        split
        · rfl
        · rename_i hc; rw [if_neg hc] at hne; exact absurd rfl hne
      clear i5 i6
      generalize rtake s r1 0 r3 = T at *
      obtain ⟨t1, t2, tb⟩ := T
      simp only at *
      by_cases ht2 : t2 = 0
      · subst ht2
        rw [if_neg (by simp)]
        clear hem
        go_enter Try.func42, Try.ntmps42
        go_wp2_with fail
        refine (rErr b s _ p 0 h).mono ?_
        rintro e w1 ⟨rfl, rfl⟩
        go_wp2_with fail
        refine (HC.out _ h).mono ?_
        rintro e w2 ⟨rfl, g2, q2⟩
        go_wp2_with fail
        refine (HT.out _ g2 (by omega)).mono ?_
        rintro e w3 ⟨rfl, g3, q3⟩
        have d1 := g3.c1
        have d2 := g3.c2
        have d3 := g3.f 1
        go_wp2
        go_ret
        exact ⟨rfl, g3, q2.trans q3⟩
      · rw [if_pos ht2]
        have htb := hem ht2
        subst htb
        have ht2' : (t2 != 0) = true := by simp [ht2]
        clear hem ht2
        go_enter Try.func42, Try.ntmps42
        go_wp2_with fail
        refine (rErr b s _ p 0 h).mono ?_
        rintro e w1 ⟨rfl, rfl⟩
        go_wp2_with fail
        refine (HC.out _ h).mono ?_
        rintro e w2 ⟨rfl, g2, q2⟩
        go_wp2_with fail
        refine (HT.out _ g2 (by omega)).mono ?_
        rintro e w3 ⟨rfl, g3, q3⟩
        have d1 := g3.c1
        have d2 := g3.c2
        have d3 := g3.f 1
        go_wp2
        go_ret
        exact ⟨rfl, g3.set1 _, (q2.trans q3).trans (Rfr.setCell _ _ _ _)⟩
    · obtain ⟨rfl, rfl⟩ := i6 hr2
      rw [if_pos hr2]
      have hrt : rtake s r1 r2 0 = (r1, r2, ⟨#[]⟩) := by unfold rtake; rw [if_pos hr2]
      rw [hrt] at HT
      have hr2' : (r2 != 0) = true := by simp [hr2]
      clear i5 i6 hr2 hrt
      go_enter Try.func42, Try.ntmps42
      go_wp2_with fail
      refine (rErr b s _ _ 0 h).mono ?_
      rintro e w1 ⟨rfl, rfl⟩
      go_wp2_with fail
      refine (HC.out _ h).mono ?_
      rintro e w2 ⟨rfl, g2, q2⟩
      go_wp2_with fail
      refine (HT.out _ g2 (by omega)).mono ?_
      rintro e w3 ⟨rfl, g3, q3⟩
      have d1 := g3.c1
      have d2 := g3.c2
      have d3 := g3.f 1
      go_wp2
      go_ret
      exact ⟨rfl, g3.set1 _, (q2.trans q3).trans (Rfr.setCell _ _ _ _)⟩
  · have hr : rstr s p err most = (p, err, ⟨#[]⟩) := by unfold rstr; rw [if_pos he]
    rw [hr]
    have he' : (err != 0) = true := by simp [he]
    clear he hr
    go_enter Try.func42, Try.ntmps42
    go_wp2_with (go_at_call 26; refine (rErr b s _ p err h).mono ?_; rintro e w1 ⟨rfl, rfl⟩)
    go_ret
    exact ⟨rfl, h, Rfr.refl _ _⟩
/-- Two bytes, the highest first. -/
def swap (n : Nat) : Nat := n % 256 * 256 + n / 256
theorem rBig (p err : Int) (h : Rst w b s p err) (hs : s.size ≤ maxLen) (h0 : 0 ≤ p) (h1 : p ≤ s.size) : Calls Try.prog 39 #[.pointer (some ⟨b, 0, none⟩)] w fun e w' => e = .returned (.int .u16 (swap (getL (rtake s p err 2).2.2.data.toList))) ∧ Rst w' b s (rtake s p err 2).1 (rtake s p err 2).2.1 ∧ Rfr b w w' := by
  have hz := rtake_size s p err 2 2 rfl h0
  have hg : getL (rtake s p err 2).2.2.data.toList < 65536 := getL_lt' _ 2 _ (by simpa using hz) (by decide)
  have HT := hide fun w h => rU16 b s w p err h hs h0 h1
  generalize rtake s p err 2 = R at *
  generalize getL R.2.2.data.toList = m at *
  go_enter Try.func39, Try.ntmps39
  go_wp2_with (first | (go_at_call 36; refine (HT.out _ h).mono ?_; rintro e w1 ⟨rfl, hr, hf⟩) | (go_at_call 71; refine (swap_any m hg _).mono ?_; rintro e w2 ⟨rfl, rfl⟩))
  go_ret
  exact ⟨rfl, hr, hf⟩
/-- A byte as yes or no: the place, the error, the answer. -/
def rbool (s : ByteArray) (p err : Int) : Int × Int × Bool :=
  if (rtake s p err 1).2.1 ≠ 0 then (p, (rtake s p err 1).2.1, false) else if 1 < getL (rtake s p err 1).2.2.data.toList then (p, 6, false) else ((rtake s p err 1).1, 0, getL (rtake s p err 1).2.2.data.toList == 1)
/-- Where nothing is taken the place stays, and there are no bytes. -/
theorem rtake_err (s : ByteArray) (p err n : Int) (h : (rtake s p err n).2.1 ≠ 0) : (rtake s p err n).1 = p ∧ (rtake s p err n).2.2 = ⟨#[]⟩ := by
  unfold rtake at h ⊢
  split
  · exact ⟨rfl, rfl⟩
  · split
    · exact ⟨rfl, rfl⟩
    · split
      · exact ⟨rfl, rfl⟩
      · rename_i h1 h2 h3; rw [if_neg h1, if_neg h2, if_neg h3] at h; exact absurd rfl h
theorem rtake_ok (s : ByteArray) (p err n : Int) (h : (rtake s p err n).2.1 = 0) : err = 0 ∧ (rtake s p err n).1 = p + n ∧ 0 ≤ n ∧ n ≤ s.size - p ∧ (rtake s p err n).2.2 = s.extract p.toNat (p + n).toNat := by
  unfold rtake at h ⊢
  split
  · rename_i h1; rw [if_pos h1] at h; exact absurd h h1
  · split
    · rename_i h1 h2; rw [if_neg h1, if_pos h2] at h; exact absurd h (show ¬ (1 : Int) = 0 by decide)
    · split
      · rename_i h1 h2 h3; rw [if_neg h1, if_neg h2, if_pos h3] at h; exact absurd h (show ¬ (4 : Int) = 0 by decide)
      · rename_i h1 h2 h3; exact ⟨by simpa using h1, rfl, by omega, by omega, rfl⟩
theorem rBool (p err : Int) (h : Rst w b s p err) (hs : s.size ≤ maxLen) (h0 : 0 ≤ p) (h1 : p ≤ s.size) : Calls Try.prog 44 #[.pointer (some ⟨b, 0, none⟩)] w fun e w' => e = .returned (.bool (rbool s p err).2.2) ∧ Rst w' b s (rbool s p err).1 (rbool s p err).2.1 ∧ Rfr b w w' := by
  have hi := rtake_inv s p err 1 h0 h1
  have HT := hide fun w h => rByte b s w p err h hs h0 h1
  have he := rtake_err s p err 1
  have ho := rtake_ok s p err 1
  unfold rbool
  generalize rtake s p err 1 = R at *
  obtain ⟨r1, r2, rb⟩ := R
  dsimp only at *
  by_cases h2 : r2 = 0
  · subst h2
    rw [if_neg (by simp)]
    obtain ⟨rfl, hr1, -, -, -⟩ := ho rfl
    clear he ho
    generalize getL rb.data.toList = m at *
    unfold maxLen at hs
    by_cases hm : 1 < m
    · rw [if_pos hm]
      have hm1 : ((m : Int) == 1) = false := beq_eq_false_iff_ne.2 (by omega)
      have hm2 : (1 : Int) < m := by omega
      have HR := hide hr1
      clear hr1
      go_enter Try.func44, Try.ntmps44
      go_wp2_with fail
      refine (HT.out _ h).mono ?_
      rintro e w1 ⟨rfl, g, q⟩
      have d1 := g.c1
      have d2 := g.f 1
      have d4 := (g.set1 (r1 - 1)).c2
      have d5 := (g.set1 (r1 - 1)).f 2
      go_wp2
      go_ret
      refine ⟨rfl, ?_, (q.trans (Rfr.setCell _ _ _ _)).trans (Rfr.setCell _ _ _ _)⟩
      have e1 : r1 - 1 = p := by have := HR.out; omega
      rw [e1]
      exact (g.set1 p).set2 6
    · rw [if_neg hm]
      have hm2 : ¬ (1 : Int) < m := by omega
      have hm3 : ((m : Int) == 1) = (m == 1) := by
        by_cases e : m = 1
        · subst e; rfl
        · rw [beq_eq_false_iff_ne.2 (by omega), beq_eq_false_iff_ne.2 e]
      clear hr1
      go_enter Try.func44, Try.ntmps44
      go_wp2_with (go_at_call 35; refine (HT.out _ h).mono ?_; rintro e w1 ⟨rfl, g, q⟩)
      go_ret
      exact ⟨rfl, g, q⟩
  · rw [if_pos h2]
    obtain ⟨rfl, rfl⟩ := he h2
    clear he ho
    go_enter Try.func44, Try.ntmps44
    go_wp2_with (go_at_call 35; refine (HT.out _ h).mono ?_; rintro e w1 ⟨rfl, g, q⟩)
    go_ret
    exact ⟨rfl, g, q⟩
/-- The error, or that bytes are left. -/
def rend (s : ByteArray) (p err : Int) : Int := if err = 0 then (if p < s.size then 5 else 0) else err
theorem rEnd (p err : Int) (h : Rst w b s p err) (hs : s.size ≤ maxLen) (h0 : 0 ≤ p) (h1 : p ≤ s.size) : Calls Try.prog 33 #[.pointer (some ⟨b, 0, none⟩)] w fun e w' => e = .returned (.int .i64 (rend s p err)) ∧ Rst w' b s p (rend s p err) ∧ Rfr b w w' := by
  by_cases hp : p < s.size
  · have hr : rend s p err = if err = 0 then 5 else err := by unfold rend; rw [if_pos hp]
    rw [hr]
    have HF := hide fun w h => rFail b s w p err 5 h
    have HL := hide fun w h => rLeft b s w p err h hs h0 h1
    generalize (if err = 0 then 5 else err : Int) = E at *
    have hp2 : 0 < (s.size : Int) - p := by omega
    clear hr
    go_enter Try.func33, Try.ntmps33
    go_wp2_with fail
    refine (HL.out _ h).mono ?_
    rintro e w1 ⟨rfl, nq, rfl⟩
    go_wp2_with fail
    refine (HF.out _ (h.drewN nq)).mono ?_
    rintro e w2 ⟨rfl, g, q⟩
    go_wp2_with fail
    refine (rErr b s _ p E g).mono ?_
    rintro e w3 ⟨rfl, rfl⟩
    go_wp2
    go_ret
    exact ⟨rfl, g, (Rfr.drewN b _ nq).trans q⟩
  · have hr : rend s p err = err := by
      unfold rend
      by_cases e : err = 0
      · rw [if_pos e, if_neg hp, e]
      · rw [if_neg e]
    rw [hr]
    have HL := hide fun w h => rLeft b s w p err h hs h0 h1
    have hp2 : ¬ 0 < (s.size : Int) - p := by omega
    clear hr
    go_enter Try.func33, Try.ntmps33
    go_wp2_with fail
    refine (HL.out _ h).mono ?_
    rintro e w1 ⟨rfl, nq, rfl⟩
    go_wp2_with fail
    refine (rErr b s _ p err (h.drewN nq)).mono ?_
    rintro e w3 ⟨rfl, rfl⟩
    go_wp2
    go_ret
    exact ⟨rfl, h.drewN nq, Rfr.drewN b _ nq⟩
end
end Go.Proofs.Ytnmffnefkokkeaa
