/- The contracts of Append and Sync. -/
import Derived.Test.YtpjpgmfcmjdkbaaDq
namespace Go.Proofs.Ytpjpgmfcmjdkbaa
open Go.RowKit
open Go.Deep
open Go.Lib
theorem chs_at (l : List Ch) : ∀ (i : Nat) (c : Ch), l[i]? = some c → ∀ j v, (chv c).toList[j]? = some v → (chs l)[i * 5 + j]? = some v := by
  induction l with
  | nil => intro i c h; simp at h
  | cons x r ih =>
    intro i c h j v hv
    have hj : j < 5 := by
      rcases Nat.lt_or_ge j 5 with h' | h'
      · exact h'
      · rw [List.getElem?_eq_none (by rw [chv_len]; exact h')] at hv
        cases hv
    show ((chv x).toList ++ chs r)[i * 5 + j]? = some v
    cases i with
    | zero =>
      simp at h
      subst h
      rw [Nat.zero_mul, Nat.zero_add, List.getElem?_append_left (by rw [chv_len]; exact hj)]
      exact hv
    | succ i =>
      simp at h
      rw [List.getElem?_append_right (by rw [chv_len]; omega), chv_len, show (i + 1) * 5 + j - 5 = i * 5 + j by omega]
      exact ih i c h j v hv
/-- The block of loose changes. -/
def blkOf (v : Value) : Nat := (v.ownBlock).getD 0
/-- Loose changes can be read, all or the first of them. -/
theorem LC.of_rows {w : World} {v : Value} {l : List Ch} (h : w.ownsRow 0 90 5 v l.length (chs l)) (k : Nat) (hk : k ≤ l.length) : LC w (blkOf v) (cutv v k) (l.take k) := by
  have hlk : (l.take k).length = k := by simp; omega
  rcases h.2 with ⟨rfl, h0⟩ | ⟨g, cap, cur, rfl, hb, hg, r⟩
  · have : k = 0 := by omega
    subst this
    exact ⟨⟨none, 0, rfl, fun h => by simp at h⟩⟩
  · refine ⟨⟨some ⟨g, 0, none⟩, cap, by rw [hlk]; rfl, fun h0 => ⟨0, rfl, fun i c hc j v hv => ?_⟩⟩⟩
    have hi : l[i]? = some c := by
      rw [List.getElem?_take] at hc
      split at hc
      · exact hc
      · cases hc
    have := World.ownsRow.cells h (g := g) rfl (i * 5 + j) v (chs_at l i c hi j v hv)
    rw [addr_add, Nat.zero_add] at this
    rw [Nat.zero_add]
    exact this
theorem loose_form {w : World} {v : Value} {l : List Ch} (h : w.ownsRow 0 90 5 v l.length (chs l)) : ∃ ao c, v = .slice ao l.length c := by
  rcases h.2 with ⟨rfl, h0⟩ | ⟨g, cap, cur, rfl, _⟩
  · exact ⟨_, _, by rw [h0]⟩
  · exact ⟨_, _, rfl⟩
theorem loose_blk {w : World} {v : Value} {l : List Ch} (h : w.ownsRow 0 90 5 v l.length (chs l)) (hl : 0 < l.length) : v.ownBlock = some (blkOf v) := by
  rcases h.2 with ⟨rfl, h0⟩ | ⟨g, cap, cur, rfl, _⟩
  · omega
  · rfl
section
set_option maxRecDepth 10000
set_option maxHeartbeats 4000000
theorem append_nil (nm s : ByteArray) (w : World) : Calls Try.prog 11 #[.pointer none, .string nm, .string s] w fun e w' => e = .returned (.int .i64 7) ∧ w' = w := by
  have HD := hide fun W => dead_nil W
  go_enter Try.func11, Try.ntmps11
  go_wp2_with (go_at_call 26; refine (HD.out _).mono ?_; rintro e w1 ⟨rfl, hw⟩; subst w1)
  go_ret
  exact ⟨rfl, rfl⟩
theorem append_ok (gd : Nat) (x : St) (T : Nat → Prop) (nm s : ByteArray) (w : World) (h : DK w gd x T) (hV : Vd x) (hp : x.plan = []) (hr : rdy x.dead [nm] = 0) (hs : (x.now.at (ls nm)).length + s.size ≤ 16777216) (hroom : (x.now.get (ls nm)).isSome = true ∨ x.now.n < 64) (hmany : x.loose.length < 10000) (hmade : x.made < 1000000) : Calls Try.prog 11 #[.pointer (some ⟨gd, 0, none⟩), .string nm, .string s] w fun e w' => e = .returned (.int .i64 0) ∧ DK w' gd (mkC x (wrC nm (x.now.at (ls nm)).length s)) (grow T w w') ∧ Fr T w w' := by
  have HW := hide (write_ok gd x T nm _ s w h hV hp hr (Nat.le_refl _) hs hroom hmany hmade)
  obtain ⟨S1, S2, mn, ms, vo, vp, h⟩ := h
  obtain ⟨hdead, hname⟩ := rdy_ok hr
  have hm : nm.size ≤ maxLen := by
    have := (name_len hname).2
    have e : (ls nm).length = nm.size := by simp
    unfold maxLen
    omega
  have c5 := h.cell 5 (by decide)
  have c0 := h.cell 0 (by decide)
  rw [show dc mn ms vo vp x.made x.dead 5 = .bool x.dead from rfl, hdead] at c5
  rw [show dc mn ms vo vp x.made x.dead 0 = .map mn from rfl] at c0
  have HD := hide (dead_cell gd false w c5)
  obtain ⟨v, hl1, hl2, ov⟩ := h.now.look hm
  obtain ⟨ao, n, c, rfl, hn⟩ := ov.form
  rw [← hn.out] at HW ⊢
  clear h hV hp hr hs hroom hmany hmade hdead hname hm hl2 ov hn c5
  go_enter Try.func11, Try.ntmps11
  go_wp2_with (first | (go_at_call 26; refine HD.out.mono ?_; rintro e w1 ⟨rfl, hw⟩; subst w1) | (go_at_call 16; refine HW.out.mono ?_; rintro e w1 ⟨rfl, hd⟩; have HF := hide hd; clear hd))
  go_ret
  exact ⟨rfl, HF.out⟩
theorem append_err (gd : Nat) (x : St) (T : Nat → Prop) (nm s : ByteArray) (w : World) (h : DK w gd x T) (hb : Bd x.now) (hm : nm.size ≤ maxLen) (hs : s.size ≤ maxLen) (he : wrE x nm (x.now.at (ls nm)).length s ≠ 0) : Calls Try.prog 11 #[.pointer (some ⟨gd, 0, none⟩), .string nm, .string s] w fun e w' => e = .returned (.int .i64 (wrE x nm (x.now.at (ls nm)).length s)) ∧ Below w.heap.size w w' := by
  have HW := hide (write_err gd x T nm (x.now.at (ls nm)).length s w h hb hm hs (by omega) (by have := hb.len (ls nm); omega) he)
  obtain ⟨S1, S2, mn, ms, vo, vp, h⟩ := h
  have c5 := h.cell 5 (by decide)
  have c0 := h.cell 0 (by decide)
  rw [show dc mn ms vo vp x.made x.dead 5 = .bool x.dead from rfl] at c5
  rw [show dc mn ms vo vp x.made x.dead 0 = .map mn from rfl] at c0
  have HD := hide (dead_cell gd x.dead w c5)
  obtain ⟨v, hl1, hl2, ov⟩ := h.now.look hm
  obtain ⟨ao, n, c, rfl, hn⟩ := ov.form
  cases hdd : x.dead
  · rw [hdd] at HD
    rw [← hn.out] at HW ⊢
    generalize wrE x nm n s = E at *
    clear h hb hs hm hl2 ov hn c5 hdd he
    go_enter Try.func11, Try.ntmps11
    go_wp2_with (first | (go_at_call 26; refine HD.out.mono ?_; rintro e w1 ⟨rfl, hw⟩; subst w1) | (go_at_call 16; refine HW.out.mono ?_; rintro e w1 ⟨rfl, hd⟩; have HF := hide hd; clear hd))
    go_ret
    exact ⟨rfl, HF.out⟩
  · rw [hdd] at HD
    have e7 : wrE x nm (x.now.at (ls nm)).length s = 7 := by
      have : rdy x.dead [nm] = 7 := by
        rw [hdd]
        rfl
      unfold wrE
      rw [this]
      rfl
    rw [e7]
    clear h hb hs hm hl2 ov hn c5 hdd he HW e7
    go_enter Try.func11, Try.ntmps11
    go_wp2_with (first | (go_at_call 26; refine HD.out.mono ?_; rintro e w1 ⟨rfl, hw⟩; subst w1))
    go_ret
    exact ⟨rfl, Below.refl _ _⟩
end
end Go.Proofs.Ytpjpgmfcmjdkbaa
