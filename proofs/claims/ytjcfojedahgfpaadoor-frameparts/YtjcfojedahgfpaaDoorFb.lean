/- Frames: the mathematics of heads and of streams. -/
import Derived.Test.YtjcfojedahgfpaaDoorFa
namespace Go.Proofs.YtjcfojedahgfpaaDoor
theorem allZ_rep {l : List UInt8} (h : l.all (· == 0) = true) : l = List.replicate l.length 0 := by
  rw [List.eq_replicate_iff]
  refine ⟨rfl, fun b hb => ?_⟩
  rw [List.all_eq_true] at h
  simpa using h b hb
theorem trimZ_nz (c : List UInt8) (k : Nat) (h : c.all (· != 0) = true) : trimZ (c ++ List.replicate k 0) = c := by
  unfold trimZ
  rw [List.reverse_append, List.reverse_replicate, dropZ_rep]
  have h1 : List.dropWhile (fun x : UInt8 => x == 0) c.reverse = c.reverse := by
    rw [← List.all_reverse] at h
    cases hr : c.reverse with
    | nil => rfl
    | cons x r =>
      rw [hr, List.all_cons, Bool.and_eq_true] at h
      have hx := h.1
      rw [List.dropWhile_cons, if_neg]
      intro e
      rw [beq_iff_eq] at e
      subst e
      simp at hx
  rw [h1, List.reverse_reverse]
theorem trimZ_mid (a b : List UInt8) (h : b.all (· == 0) = false) : okCmd (trimZ (a ++ 0 :: b)) = false := by
  have h1 : (List.dropWhile (fun x : UInt8 => x == 0) b.reverse).isEmpty = false := by
    rw [← List.all_reverse] at h
    generalize b.reverse = r at h
    induction r with
    | nil => simp at h
    | cons x r ih =>
      rw [List.dropWhile_cons]
      split
      · rename_i hx
        rw [List.all_cons, hx, Bool.true_and] at h
        exact ih h
      · rfl
  have h2 : (0 : UInt8) ∈ trimZ (a ++ 0 :: b) := by
    unfold trimZ
    rw [List.reverse_append, List.reverse_cons, List.append_assoc, List.dropWhile_append, h1]
    simp
  cases ho : okCmd (trimZ (a ++ 0 :: b)) with
  | false => rfl
  | true =>
    have h3 := okCmd_all ho
    rw [List.all_eq_true] at h3
    have := h3 0 h2
    simp [okB] at this
/-- The command of twelve bytes, as the document finds it. -/
def namedM (s : List UInt8) : List UInt8 :=
  if (s.drop (s.takeWhile (· != 0)).length).all (· == 0) = false then []
  else if okCmd (s.takeWhile (· != 0)) = false then [] else s.takeWhile (· != 0)
theorem all_takeW (l : List UInt8) : (l.takeWhile (· != 0)).all (· != 0) = true := by
  induction l with
  | nil => rfl
  | cons x l ih =>
    rw [List.takeWhile_cons]
    split
    · rename_i h
      rw [List.all_cons, h, ih]
      rfl
    · rfl
theorem takeW_split (l : List UInt8) : l = l.takeWhile (· != 0) ++ l.drop (l.takeWhile (· != 0)).length := by
  induction l with
  | nil => rfl
  | cons x l ih =>
    rw [List.takeWhile_cons]
    split
    · rw [List.length_cons, List.drop_succ_cons, List.cons_append, ← ih]
    · rfl
theorem takeW_head (l : List UInt8) : l.drop (l.takeWhile (· != 0)).length = [] ∨ ∃ r, l.drop (l.takeWhile (· != 0)).length = 0 :: r := by
  induction l with
  | nil => exact .inl rfl
  | cons x l ih =>
    rw [List.takeWhile_cons]
    split
    · rw [List.length_cons, List.drop_succ_cons]
      exact ih
    · rename_i h
      have hx : x = 0 := by simpa using h
      subst hx
      exact .inr ⟨l, rfl⟩
theorem namedM_eq (s : List UInt8) : namedM s = if okCmd (trimZ s) = false then [] else trimZ s := by
  unfold namedM
  have e := takeW_split s
  by_cases h : (s.drop (s.takeWhile (· != 0)).length).all (· == 0) = true
  · rw [if_neg (by rw [h]; decide)]
    have h2 : trimZ s = s.takeWhile (· != 0) := by
      conv => lhs; rw [e, allZ_rep h]
      exact trimZ_nz _ _ (all_takeW s)
    rw [h2]
  · have h' : (s.drop (s.takeWhile (· != 0)).length).all (· == 0) = false := by simpa using h
    rw [if_pos h']
    rcases takeW_head s with h3 | ⟨r, h3⟩
    · rw [h3] at h'
      simp at h'
    · rw [h3] at e
      have h4 : r.all (· == 0) = false := by
        rw [h3, List.all_cons] at h'
        simpa using h'
      rw [e, trimZ_mid _ _ h4, if_pos rfl]
theorem headM_take (m : Nat) (s : List UInt8) : headM m (s.take 24) = headM m s := by
  by_cases h : s.length ≤ 24
  · rw [List.take_of_length_le h]
  · conv => rhs; rw [← List.take_append_drop 24 s]
    rw [headM_app m (s.take 24) _ (by rw [List.length_take]; omega)]
theorem decM_take (m : Nat) (s : List UInt8) (h0 : (headM m s).err = 0) (hl : 24 + (headM m s).long ≤ s.length) : decM m (s.take (24 + (headM m s).long)) 0 = decM m s 0 := by
  have e : headM m (s.take (24 + (headM m s).long)) = headM m s := by
    conv => rhs; rw [← List.take_append_drop (24 + (headM m s).long) s]
    rw [headM_app m _ _ (by rw [List.length_take]; omega)]
  unfold decM
  rw [if_neg (show ¬ ((0 : Int) < 0 ∨ ((s.take (24 + (headM m s).long)).length : Int) < 0) by omega), if_neg (show ¬ ((0 : Int) < 0 ∨ (s.length : Int) < 0) by omega)]
  simp only [Int.toNat_zero, List.drop_zero]
  rw [e]
  generalize headM m s = H at *
  rw [if_neg (show ¬ H.err ≠ 0 by simp [h0]), if_neg (show ¬ H.err ≠ 0 by simp [h0]), if_neg (show ¬ (s.take (24 + H.long)).length < 24 + H.long by rw [List.length_take]; omega), if_neg (show ¬ s.length < 24 + H.long by omega)]
  have e2 : ((s.take (24 + H.long)).drop 24).take H.long = (s.drop 24).take H.long := by
    rw [List.drop_take, show 24 + H.long - 24 = H.long by omega, List.take_take, Nat.min_self]
  rw [e2]
theorem decM_err0 (m : Nat) (s : List UInt8) (h0 : (headM m s).err = 0) (hl : 24 + (headM m s).long ≤ s.length) : (decM m s 0).err = 0 ∨ (decM m s 0).err = 83 := by
  unfold decM
  rw [if_neg (by omega)]
  simp only [Int.toNat_zero, List.drop_zero]
  rw [if_neg (by simp [h0]), if_neg (by omega)]
  split
  · exact .inr rfl
  · exact .inl rfl
theorem decM_bad {m : Nat} {s : List UInt8} {a : Int} (h : (decM m s a).err ≠ 0) : decM m s a = Dc.bad (decM m s a).err := by
  revert h
  unfold decM
  split
  · intro; rfl
  · simp only
    split
    · intro; rfl
    · split
      · intro; rfl
      · split
        · intro; rfl
        · intro h; exact absurd rfl h
/-- Beginnings of a frame's bytes. -/
theorem headM_pre (m : Nat) (c p t a b : List UInt8) (e : a ++ b = encB m c p ++ t) (hc : okCmd c = true) (hs : a.length < 24) : headM m a = ⟨4, [], 0, 0⟩ := by
  have hl := okCmd_len hc
  have e2 : encB m c p ++ t = lowL m 4 ++ (c ++ List.replicate (12 - c.length) 0 ++ lowL p.length 4 ++ lowL (sumN p) 4 ++ p ++ t) := by simp [encB]
  have h1 : a.take 4 = (lowL m 4).take a.length := by
    have h2 : (a ++ b).take (min 4 a.length) = (lowL m 4).take (min 4 a.length) := by
      rw [e, e2, List.take_append_of_le_length (by rw [lowL_len]; omega)]
    rw [List.take_append_of_le_length (by omega)] at h2
    by_cases h : 4 ≤ a.length
    · rw [Nat.min_eq_left h] at h2
      rw [h2, List.take_of_length_le (l := lowL m 4) (by rw [lowL_len]; omega), List.take_of_length_le (by rw [lowL_len]; omega)]
    · rw [Nat.min_eq_right (by omega)] at h2
      rw [← h2, List.take_of_length_le (by omega), List.take_of_length_le (by omega)]
  unfold headM
  rw [if_neg (by simp [likeM, h1]), if_pos hs]
end Go.Proofs.YtjcfojedahgfpaaDoor
