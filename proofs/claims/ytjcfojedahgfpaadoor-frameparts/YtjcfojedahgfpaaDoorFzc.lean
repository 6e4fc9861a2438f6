/- Frames behind one another in a stream: the mathematics. -/
import Derived.Test.YtjcfojedahgfpaaDoorFp
namespace Go.Proofs.YtjcfojedahgfpaaDoor
/-- The bytes of frames, one behind the other. -/
def encAll (m : Nat) : List (List UInt8 × List UInt8) → List UInt8
  | [] => []
  | f :: r => encB m f.1 f.2 ++ encAll m r
theorem encAll_app (m : Nat) (a b : List (List UInt8 × List UInt8)) : encAll m (a ++ b) = encAll m a ++ encAll m b := by
  induction a with
  | nil => rfl
  | cons f a ih => rw [List.cons_append, encAll, encAll, ih, List.append_assoc]
def okF (f : List UInt8 × List UInt8) : Prop := okCmd f.1 = true ∧ f.2.length ≤ 16384
theorem okF_len {f : List UInt8 × List UInt8} (m : Nat) (h : okF f) : (encB m f.1 f.2).length = 24 + f.2.length := encB_len m _ _ (okCmd_len h.1).2
theorem Sq.next_none (m : Nat) (held : List UInt8) (n : Int) (h0 : (headM m held).err = 4 ∨ (headM m held).err = 0) (hl : held.length < 24 + (headM m held).long) : (⟨m, held, 0, n⟩ : Sq).next = (⟨m, held, 0, n⟩, ⟨0, false, [], []⟩) := by
  unfold Sq.next Sq.frontE Sq.whole
  simp only
  rw [if_neg (by simp), if_neg, if_pos hl]
  rcases h0 with h | h <;> simp [h]
/-- What a stream tells whose bytes, and those that are yet to come, are frames. -/
theorem Sq.next_rest (m : Nat) (held s : List UInt8) (rest : List (List UInt8 × List UInt8)) (n : Int) (h : held ++ s = encAll m rest) (hok : ∀ f ∈ rest, okF f) :
    (∃ f r h', rest = f :: r ∧ h' ++ s = encAll m r ∧ h'.length ≤ held.length ∧ (⟨m, held, 0, n⟩ : Sq).next = (⟨m, h', 0, IntKind.i64.wrap (n + 1)⟩, ⟨0, true, f.1, f.2⟩)) ∨ ((⟨m, held, 0, n⟩ : Sq).next = (⟨m, held, 0, n⟩, ⟨0, false, [], []⟩) ∧ held.length < 16408 ∧ (s = [] → held = [] ∧ rest = [])) := by
  cases rest with
  | nil =>
    rw [encAll, List.append_eq_nil_iff] at h
    obtain ⟨rfl, rfl⟩ := h
    right
    have e : headM m [] = ⟨4, [], 0, 0⟩ := by
      unfold headM
      rw [if_neg (by simp [likeM]), if_pos (by simp)]
    exact ⟨Sq.next_none m [] n (.inl (by rw [e])) (by rw [e]; simp), by simp, fun _ => ⟨rfl, rfl⟩⟩
  | cons f r =>
    have hf := hok f (List.mem_cons_self ..)
    have hlen := okF_len m hf
    rw [encAll] at h
    by_cases hl : 24 + f.2.length ≤ held.length
    · left
      have e1 : held = encB m f.1 f.2 ++ held.drop (24 + f.2.length) := by
        have h1 := congrArg (List.take (24 + f.2.length)) h
        rw [List.take_append_of_le_length hl, take_app_len _ _ _ hlen.symm] at h1
        conv => lhs; rw [← List.take_append_drop (24 + f.2.length) held]
        rw [h1]
      have e2 : held.drop (24 + f.2.length) ++ s = encAll m r := by
        have h1 := congrArg (List.drop (24 + f.2.length)) h
        rw [List.drop_append_of_le_length hl, drop_app_len _ _ _ hlen.symm] at h1
        exact h1
      refine ⟨f, r, held.drop (24 + f.2.length), rfl, e2, by rw [List.length_drop]; omega, ?_⟩
      conv => lhs; rw [e1]
      exact Sq.next_frame m f.1 f.2 _ n hf.1 hf.2
    · right
      have hp := hf.2
      refine ⟨?_, by omega, fun hs => ?_⟩
      · by_cases h24 : held.length < 24
        · have e := headM_pre m f.1 f.2 (encAll m r) held s h hf.1 h24
          exact Sq.next_none m held n (.inl (by rw [e])) (by rw [e]; simpa using h24)
        · have e : headM m held = ⟨0, f.1, f.2.length, sumN f.2⟩ := by
            rw [← headM_app m held s (by omega), h]
            exact encB_head m f.1 f.2 _ hf.1 hf.2
          exact Sq.next_none m held n (.inr (by rw [e])) (by rw [e]; simp only; omega)
      · subst hs
        rw [List.append_nil] at h
        have := congrArg List.length h
        rw [List.length_append, hlen] at this
        omega
end Go.Proofs.YtjcfojedahgfpaaDoor
