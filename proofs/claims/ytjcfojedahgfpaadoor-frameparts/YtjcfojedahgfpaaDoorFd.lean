/- Frames: the contracts of the document's named, Head, Decode and Encode. -/
import Derived.Test.YtjcfojedahgfpaaDoorFc
namespace Go.Proofs.YtjcfojedahgfpaaDoor
open Go.RowKit
open Go.Deep
theorem tw_eq (l : List UInt8) (k : Nat) (h : ∀ j (hj : j < l.length), j < k → l[j] ≠ 0) (he : l.length ≤ k ∨ ∃ hk : k < l.length, l[k] = 0) : l.takeWhile (· != 0) = l.take k := by
  induction l generalizing k with
  | nil => simp
  | cons x l ih =>
    cases k with
    | zero =>
      rcases he with he | ⟨_, he⟩
      · simp at he
      · simp at he
        simp [he]
    | succ k =>
      have hx : x ≠ 0 := h 0 (by simp) (by omega)
      rw [List.takeWhile_cons, if_pos (by simpa using hx), List.take_succ_cons, ih k (fun j hj hjk => h (j + 1) (by simpa using hj) (by omega))]
      rcases he with he | ⟨h1, he⟩
      · exact .inl (by simpa using he)
      · exact .inr ⟨by simpa using h1, by simpa using he⟩
theorem all_drop (l : List UInt8) (k : Nat) (h : ∀ j (hj : j < l.length), k ≤ j → l[j] = 0) : (l.drop k).all (· == 0) = true := by
  rw [List.all_eq_true]
  intro x hx
  obtain ⟨j, hj, rfl⟩ := List.mem_iff_getElem.1 hx
  rw [List.getElem_drop, h _ _ (by omega)]
  rfl
theorem not_all_drop (l : List UInt8) (k j : Nat) (hj : j < l.length) (hk : k ≤ j) (h : l[j] ≠ 0) : (l.drop k).all (· == 0) = false := by
  cases e : (l.drop k).all (· == 0) with
  | false => rfl
  | true =>
    rw [List.all_eq_true] at e
    have := e l[j] (List.mem_iff_getElem.2 ⟨j - k, by rw [List.length_drop]; omega, by rw [List.getElem_drop]; congr 1; omega⟩)
    exact absurd (by simpa using this) h
theorem txt_take (s : ByteArray) (k : Nat) : s.extract 0 k = txt (s.data.toList.take k) := by
  apply ByteArray.ext
  show (s.extract 0 k).data = (s.data.toList.take k).toArray
  rw [← Array.toList_inj]
  simp
section
set_option maxRecDepth 10000
set_option maxHeartbeats 1000000
theorem named_any (s : ByteArray) (w : World) (hs : s.size = 12) : Calls Tryd.prog 53 #[.string s] w fun e w' => e = .returned (.string (txt (namedM s.data.toList))) ∧ w' = w := by
  have hl : s.data.toList.length = 12 := by simpa using hs
  generalize hO : namedM s.data.toList = O
  have HO := hide hO
  clear hO
  go_enter Tryd.func53, Tryd.ntmps53
  go_wp2
  go_loop [3] (fun i => ∃ k : Nat, k ≤ 12 ∧ i = .int .i64 k ∧ Hid (∀ j (hj : j < s.data.toList.length), j < k → s.data.toList[j] ≠ 0)) (fun i => (12 - intOf i).toNat)
  case atStart => exact ⟨0, Nat.zero_le _, rfl, fun j hj h => absurd h (Nat.not_lt_zero _)⟩
  case round =>
    obtain ⟨k, hk, rfl, hb⟩ := hrel
    have hcs : (k < 12 ∧ ∃ h : k < s.size, (s[k].toNat : Int) ≠ 0) ∨ (k < 12 ∧ ∃ h : k < s.size, (s[k].toNat : Int) = 0) ∨ k = 12 := by
      by_cases h : k < 12
      · have h2 : k < s.size := by omega
        by_cases h3 : (s[k].toNat : Int) = 0
        · exact .inr (.inl ⟨h, h2, h3⟩)
        · exact .inl ⟨h, h2, h3⟩
      · exact .inr (.inr (by omega))
    rcases hcs with ⟨h1, h2, h3⟩ | hcs
    · go_wp2
      refine ⟨⟨k + 1, by omega, by go_num, fun j hj hjk => ?_⟩, by simp [intOf]; omega⟩
      by_cases e : j = k
      · subst e
        intro hz
        have : s[j] = 0 := hz
        rw [this] at h3
        exact h3 rfl
      · exact hb.out j hj (by omega)
    · have HT : Hid (s.data.toList.takeWhile (· != 0) = s.data.toList.take k) := tw_eq _ k hb.out (by
        rcases hcs with ⟨h1, h2, h3⟩ | h1
        · refine .inr ⟨by omega, ?_⟩
          have h4 : s[k].toNat = 0 := by omega
          exact UInt8.toNat_inj.1 h4
        · exact .inl (by omega))
      have HL : Hid ((s.data.toList.take k).length = k) := by simp [Hid, hs]; omega
      unfold namedM at HO
      rw [HT.out, HL.out] at HO
      clear hb HT HL
      have hsz : s.size ≤ maxLen := by rw [hs]; unfold maxLen; decide
      have hks : k ≤ s.size := by omega
      have HC : Hid (∀ W (t : ByteArray), t.data.toList = s.data.toList.take k → Calls Tryd.prog 10 #[.string t] W fun e w' => e = .returned (.bool (okCmd (s.data.toList.take k))) ∧ w' = W) := fun W t ht => by
        rw [← ht]
        refine rcommand_any t W ?_
        have := congrArg List.length ht
        simp at this
        unfold maxLen
        omega
      clear hsz
      replace hcs : (k < 12 ∧ ∃ h : k < s.size, (s[k].toNat : Int) = 0) ∨ ¬ (k : Int) < 12 := by
        rcases hcs with h | h
        · exact .inl h
        · exact .inr (by omega)
      rcases hcs with ⟨h1, h2, h3⟩ | h1
      all_goals
        go_wp2
        go_loop [4] (fun i => ∃ m : Nat, m ≤ 12 ∧ i = .int .i64 m ∧ Hid (k ≤ m ∧ ∀ j (hj : j < s.data.toList.length), k ≤ j → j < m → s.data.toList[j] = 0)) (fun i => (12 - intOf i).toNat)
        case atStart => exact ⟨k, by omega, rfl, Nat.le_refl _, fun j hj h h' => by omega⟩
        case round =>
          obtain ⟨m, hm, rfl, hd⟩ := hrel
          by_cases h4 : m < 12
          · have h5 : m < s.size := by omega
            by_cases h6 : (s[m].toNat : Int) = 0
            · have HZ : Hid (s[m] = 0) := UInt8.toNat_inj.1 (by show s[m].toNat = 0; omega)
              go_wp2
              refine ⟨⟨m + 1, by omega, by go_num, by have := hd.out.1; omega, fun j hj hkj hjm => ?_⟩, by simp [intOf]; omega⟩
              by_cases e : j = m
              · subst e
                exact HZ.out
              · exact hd.out.2 j hj hkj (by omega)
            · have HN : Hid (O = []) := by
                rw [← HO.out, if_pos (not_all_drop _ k m (by omega) hd.out.1 (fun e => h6 (by have e2 : s[m] = 0 := e; rw [e2]; rfl)))]
                rfl
              go_wp2
              go_ret
              exact ⟨by rw [HN.out]; rfl, rfl⟩
          · have h5 : ¬ (m : Int) < 12 := by omega
            rw [all_drop _ k (fun j hj hkj => hd.out.2 j hj hkj (by omega)), if_neg (by decide)] at HO
            clear hd
            cases hC : okCmd (s.data.toList.take k) with
            | true =>
              rw [hC] at HO HC
              rw [if_neg (by decide)] at HO
              go_wp2_with (go_at_call 10; refine (HC.out _ _ (by simp)).mono ?_; rintro e w1 ⟨rfl, rfl⟩)
              go_ret
              exact ⟨by rw [← HO.out, ← txt_take]; rfl, rfl⟩
            | false =>
              rw [hC] at HO HC
              rw [if_pos rfl] at HO
              go_wp2_with (go_at_call 10; refine (HC.out _ _ (by simp)).mono ?_; rintro e w1 ⟨rfl, rfl⟩)
              go_ret
              exact ⟨by rw [← HO.out]; rfl, rfl⟩
end
end Go.Proofs.YtjcfojedahgfpaaDoor
