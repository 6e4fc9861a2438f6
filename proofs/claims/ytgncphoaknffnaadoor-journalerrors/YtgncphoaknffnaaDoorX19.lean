/- The contracts of Write and Append. The contracts of Append and Sync. The contract of Sync. -/
import Derived.Test.YtgncphoaknffnaaDoorX18
namespace Go.Proofs.YtgncphoaknffnaaDoor
open Go.RowKit
open Go.Deep
open Go.Lib
/-- A write that is made. -/
def wrC (nm : ByteArray) (k : Nat) (s : ByteArray) : Ch := ⟨0, nm, ⟨#[]⟩, k, s⟩
/-- The error of a write. -/
def wrE (x : StD) (nm : ByteArray) (k : Int) (s : ByteArray) : Int :=
  if rdy x.dead [nm] = 0 then
    (if k < 0 ∨ ((x.now.at (ls nm)).length : Int) < k then 1 else if 16777216 - k < (s.size : Int) ∨ ((x.now.get (ls nm)).isSome = false ∧ 64 ≤ x.now.n) then 71 else 0)
  else rdy x.dead [nm]
theorem rdy_ok {d : Bool} {nm : ByteArray} (h : rdy d [nm] = 0) : d = false ∧ isName (ls nm) = true := by
  unfold rdy at h
  cases d
  · refine ⟨rfl, ?_⟩
    cases hn : isName (ls nm)
    · simp [hn] at h
    · rfl
  · simp at h
theorem name_len {l : List UInt8} (h : isName l = true) : 1 ≤ l.length ∧ l.length ≤ 32 := by
  unfold isName at h
  simp at h
  exact ⟨by have := h.1.2; omega, h.2⟩
theorem wr8_len (l : List UInt8) (k : Nat) (s : List UInt8) (hk : k ≤ l.length) : (wr8 l k s).length = max l.length (k + s.length) := by
  simp [wr8]
  omega
theorem at_put (f : FS) (k l x : List UInt8) : (f.put k l).at x = if x = k then l else f.at x := by
  unfold FS.at
  rw [FS.put_get]
  split <;> rfl
/-- A write that is made keeps the bounds. -/
theorem wr_ok {f : FS} {nm s : ByteArray} {k : Nat} (hb : Bd f) (hn : isName (ls nm) = true) (hk : k ≤ (f.at (ls nm)).length) (hs : k + s.size ≤ 16777216) (hr : (f.get (ls nm)).isSome = true ∨ f.n < 64) : okD f (wrC nm k s) := by
  have h32 := (name_len hn).2
  have hsz : nm.size ≤ 32 := by simpa using h32
  refine ⟨by simp [wrC], hsz, (by show ByteArray.size ⟨#[]⟩ ≤ 32; decide), fun _ => hk, by show s.size ≤ _; omega, hb, ⟨?_, fun x => ?_⟩⟩
  · show (f.put (ls nm) (wr8 (f.at (ls nm)) k (ls s))).n ≤ 64
    show (if (f.get (ls nm)).isSome then f.n else f.n + 1) ≤ 64
    have := hb.n
    split
    · exact this
    · rcases hr with hr | hr
      · contradiction
      · omega
  · show ((f.put (ls nm) (wr8 (f.at (ls nm)) k (ls s))).at x).length ≤ 16777216
    rw [at_put]
    split
    · rw [wr8_len _ _ _ hk]
      have := hb.len (ls nm)
      have : (ls s).length = s.size := by simp
      omega
    · exact hb.len x
section
set_option maxRecDepth 10000
set_option maxHeartbeats 4000000
theorem writeD_nil (nm : ByteArray) (k : Int) (s : ByteArray) (w : World) : Calls Tryd.prog 66 #[.pointer none, .string nm, .int .i64 k, .string s] w fun e w' => e = .returned (.int .i64 7) ∧ Below w.heap.size w w' := by
  have HD := hide fun v W => ready_nil v W
  have hB : Hid (Below w.heap.size w (w.alloc (.cells #[.string nm] 9))) := (Below.refl _ _).alloc (Nat.le_refl _) _
  go_enter Tryd.func66, Tryd.ntmps66
  go_wp2_with (go_at_call 86; refine (HD.out _ _).mono ?_; rintro e w1 ⟨rfl, hw⟩; subst w1)
  go_ret
  exact ⟨rfl, hB.out⟩
theorem write_err (gd : Nat) (x : StD) (T : Nat → Prop) (nm : ByteArray) (k : Int) (s : ByteArray) (w : World) (h : DK w gd x T) (hb : Bd x.now) (hm : nm.size ≤ maxLen) (hs : s.size ≤ maxLen) (hk1 : -9223372036854775808 ≤ k) (hk2 : k < 9223372036854775808) (he : wrE x nm k s ≠ 0) : Calls Tryd.prog 66 #[.pointer (some ⟨gd, 0, none⟩), .string nm, .int .i64 k, .string s] w fun e w' => e = .returned (.int .i64 (wrE x nm k s)) ∧ Below w.heap.size w w' := by
  obtain ⟨S1, S2, mn, ms, vo, vp, h⟩ := h
  have hB : Below w.heap.size w (w.alloc (.cells #[.string nm] 9)) := (Below.refl _ _).alloc (Nat.le_refl _) _
  have h1 := h.below hB
  have c5 := h1.cell 5 (by decide)
  have c0 := h1.cell 0 (by decide)
  rw [show dc mn ms vo vp x.made x.dead 5 = .bool x.dead from rfl] at c5
  rw [show dc mn ms vo vp x.made x.dead 0 = .map mn from rfl] at c0
  have HR := hide (ready_any gd x.dead w.heap.size 1 [nm] _ c5 (one_name w nm hm) (by simp))
  rw [show [nm].length = 1 from rfl] at HR
  obtain ⟨v, hl1, hl2, ov⟩ := h1.now.look hm
  have hlen := h1.now.len
  obtain ⟨ao, n, c, rfl, hn⟩ := ov.form
  have HN := hide (show (n : Int) = (x.now.at (ls nm)).length by rw [hn.out])
  have HB := hide hB
  have BD := hide hb
  unfold maxLen at hs
  unfold wrE at he ⊢
  have hnl := hb.len (ls nm)
  rw [← hn.out] at hnl
  clear h h1 hm hB ov hl1 c5 hn hb
  rcases rdy_cases x.dead [nm] with hr | hr | hr
  · rw [hr, if_pos rfl]
    rw [hr, if_pos rfl] at he
    rw [hr] at HR
    rw [← HN.out] at he ⊢
    clear hr
    by_cases hc1 : k < 0
    · rw [if_pos (.inl hc1)]
      clear he hlen
      generalize (x.now.get (ls nm)).isSome = th at *
      go_enter Tryd.func66, Tryd.ntmps66
      go_wp2_with (go_at_call 86; refine HR.out.mono ?_; rintro e w1 ⟨rfl, hw⟩; subst w1)
      go_ret
      exact ⟨rfl, HB.out⟩
    · by_cases hc2 : (n : Int) < k
      · rw [if_pos (.inr hc2)]
        clear he hlen
        generalize (x.now.get (ls nm)).isSome = th at *
        go_enter Tryd.func66, Tryd.ntmps66
        go_wp2_with (go_at_call 86; refine HR.out.mono ?_; rintro e w1 ⟨rfl, hw⟩; subst w1)
        go_ret
        exact ⟨rfl, HB.out⟩
      · rw [if_neg (by omega)] at he ⊢
        by_cases hc3 : 16777216 - k < (s.size : Int)
        · rw [if_pos (.inl hc3)]
          clear he hlen
          generalize (x.now.get (ls nm)).isSome = th at *
          have e1 : wrap64 (16777216 - k) = 16777216 - k := by unfold wrap64; omega
          go_enter Tryd.func66, Tryd.ntmps66
          go_wp2_with (go_at_call 86; refine HR.out.mono ?_; rintro e w1 ⟨rfl, hw⟩; subst w1)
          go_ret
          exact ⟨rfl, HB.out⟩
        · by_cases hc4 : (x.now.get (ls nm)).isSome = false ∧ 64 ≤ x.now.n
          · rw [if_pos (.inr hc4)]
            rw [hc4.1] at hl2
            have n1 : (64 : Int) ≤ x.now.n := by omega
            clear he hc4
            have e1 : wrap64 (16777216 - k) = 16777216 - k := by unfold wrap64; omega
            go_enter Tryd.func66, Tryd.ntmps66
            go_wp2_with (go_at_call 86; refine HR.out.mono ?_; rintro e w1 ⟨rfl, hw⟩; subst w1)
            go_ret
            exact ⟨rfl, HB.out⟩
          · exact absurd (if_neg (fun e => by
              rcases e with e | e
              · exact hc3 e
              · exact hc4 e)) he
  all_goals
    rw [hr, if_neg (by decide)]
    rw [hr] at HR
    clear hr he
    go_enter Tryd.func66, Tryd.ntmps66
    go_wp2_with (go_at_call 86; refine HR.out.mono ?_; rintro e w1 ⟨rfl, hw⟩; subst w1)
    go_ret
    exact ⟨rfl, HB.out⟩
theorem dk_grow {w w1 w' : World} {gd : Nat} {x : StD} {T : Nat → Prop} (hb : Below w.heap.size w w1) (hl : ∀ g, T g → g < w.heap.size) (h : DK w' gd x (grow T w1 w')) (fr : Fr T w1 w') : DK w' gd x (grow T w w') ∧ Fr T w w' := by
  have r := (Fr.of_below hb).trans' fr
  refine ⟨h.wide (fun g hg => ?_) (grow_lt hl r.size), r⟩
  rcases hg with hg | ⟨h1, h2⟩
  · exact .inl hg
  · exact .inr ⟨Nat.le_trans hb.size h1, h2⟩
theorem write_ok (gd : Nat) (x : StD) (T : Nat → Prop) (nm : ByteArray) (k : Nat) (s : ByteArray) (w : World) (h : DK w gd x T) (hV : Vd x) (hp : x.plan = []) (hr : rdy x.dead [nm] = 0) (hk : k ≤ (x.now.at (ls nm)).length) (hs : k + s.size ≤ 16777216) (hroom : (x.now.get (ls nm)).isSome = true ∨ x.now.n < 64) (hmany : x.loose.length < 10000) (hmade : x.made < 1000000) : Calls Tryd.prog 66 #[.pointer (some ⟨gd, 0, none⟩), .string nm, .int .i64 (k : Int), .string s] w fun e w' => e = .returned (.int .i64 0) ∧ DK w' gd (mkC x (wrC nm k s)) (grow T w w') ∧ Fr T w w' := by
  have hB : Below w.heap.size w (w.alloc (.cells #[.string nm] 9)) := (Below.refl _ _).alloc (Nat.le_refl _) _
  have hbd : Bd x.now := by rw [hV.now]; exact hV.ok.end_
  obtain ⟨hdead, hname⟩ := rdy_ok hr
  have hm : nm.size ≤ maxLen := by
    have := (name_len hname).2
    have e : (ls nm).length = nm.size := by simp
    unfold maxLen
    omega
  have HDo : Hid (Calls Tryd.prog 77 #[.pointer (some ⟨gd, 0, none⟩), .agg #[.int .i64 0, .string nm, .string ⟨#[]⟩, .int .i64 (k : Int), .string s]] (w.alloc (.cells #[.string nm] 9)) fun e w' => e = .returned (.int .i64 0) ∧ DK w' gd (mkC x (wrC nm k s)) (grow T (w.alloc (.cells #[.string nm] 9)) w') ∧ Fr T (w.alloc (.cells #[.string nm] 9)) w') :=
    do_any gd x T (wrC nm k s) _ (h.below hB) hV hp (wr_ok hbd hname hk hs hroom) hmany hmade
  have HL := hide h.lt
  obtain ⟨S1, S2, mn, ms, vo, vp, h⟩ := h
  have h1 := h.below hB
  have c5 := h1.cell 5 (by decide)
  have c0 := h1.cell 0 (by decide)
  rw [show dc mn ms vo vp x.made x.dead 5 = .bool x.dead from rfl] at c5
  rw [show dc mn ms vo vp x.made x.dead 0 = .map mn from rfl] at c0
  have HR := hide (ready_any gd x.dead w.heap.size 1 [nm] _ c5 (one_name w nm hm) (by simp))
  rw [show [nm].length = 1 from rfl, hr] at HR
  obtain ⟨v, hl1, hl2, ov⟩ := h1.now.look hm
  have hlen := h1.now.len
  obtain ⟨ao, n, c, rfl, hn⟩ := ov.form
  have hkn : (k : Int) ≤ n := by
    rw [hn.out]
    omega
  have hk0 : ¬ (k : Int) < 0 := by omega
  have hkn' : ¬ (n : Int) < (k : Int) := by omega
  have e1 : wrap64 (16777216 - (k : Int)) = 16777216 - k := by unfold wrap64; omega
  have hs' : ¬ 16777216 - (k : Int) < (s.size : Int) := by omega
  have HB := hide hB
  clear h h1 hm hB ov hl1 c5 hn hbd hV hp hk hdead hname hr hs hmany hmade
  cases hth : (x.now.get (ls nm)).isSome
  · rw [hth] at hl2
    have n1 : ¬ (64 : Int) ≤ x.now.n := by
      rcases hroom with e | e
      · rw [hth] at e
        cases e
      · omega
    clear hroom hth
    go_enter Tryd.func66, Tryd.ntmps66
    go_wp2_with (first | (go_at_call 86; refine HR.out.mono ?_; rintro e w1 ⟨rfl, hw⟩; subst w1) | (go_at_call 77; refine HDo.out.mono ?_; rintro e w1 ⟨rfl, hd, hf⟩; have HF := hide (dk_grow HB.out HL.out hd hf); clear hd hf))
    go_ret
    exact ⟨rfl, HF.out⟩
  · rw [hth] at hl2
    clear hroom hth
    go_enter Tryd.func66, Tryd.ntmps66
    go_wp2_with (first | (go_at_call 86; refine HR.out.mono ?_; rintro e w1 ⟨rfl, hw⟩; subst w1) | (go_at_call 77; refine HDo.out.mono ?_; rintro e w1 ⟨rfl, hd, hf⟩; have HF := hide (dk_grow HB.out HL.out hd hf); clear hd hf))
    go_ret
    exact ⟨rfl, HF.out⟩
end
end Go.Proofs.YtgncphoaknffnaaDoor
namespace Go.Proofs.YtgncphoaknffnaaDoor
open Go.RowKit
open Go.Deep
open Go.Lib
theorem chs_at (l : List Ch) : ∀ (i : Nat) (c : Ch), l[i]? = some c → ∀ j v, (chv c).toList[j]? = some v → (chs l)[i * 5 + j]? = some v := by
  induction l with
  | nil => intro i c h; simp at h
  | cons x r ih =>
    intro i c h j v hv
    have hj : j < 5 := by
      rcases Nat.lt_or_ge j 5 with h' | h'
      · exact h'
      · rw [List.getElem?_eq_none (by rw [chv_len]; exact h')] at hv
        cases hv
    show ((chv x).toList ++ chs r)[i * 5 + j]? = some v
    cases i with
    | zero =>
      simp at h
      subst h
      rw [Nat.zero_mul, Nat.zero_add, List.getElem?_append_left (by rw [chv_len]; exact hj)]
      exact hv
    | succ i =>
      simp at h
      rw [List.getElem?_append_right (by rw [chv_len]; omega), chv_len, show (i + 1) * 5 + j - 5 = i * 5 + j by omega]
      exact ih i c h j v hv
/-- The block of loose changes. -/
def blkOfD (v : Value) : Nat := (v.ownBlock).getD 0
/-- Loose changes can be read, all or the first of them. -/
theorem LC.of_rows {w : World} {v : Value} {l : List Ch} (h : w.ownsRow 0 104 5 v l.length (chs l)) (k : Nat) (hk : k ≤ l.length) : LC w (blkOfD v) (cutv v k) (l.take k) := by
  have hlk : (l.take k).length = k := by simp; omega
  rcases h.2 with ⟨rfl, h0⟩ | ⟨g, cap, cur, rfl, hb, hg, r⟩
  · have : k = 0 := by omega
    subst this
    exact ⟨⟨none, 0, rfl, fun h => by simp at h⟩⟩
  · refine ⟨⟨some ⟨g, 0, none⟩, cap, by rw [hlk]; rfl, fun h0 => ⟨0, rfl, fun i c hc j v hv => ?_⟩⟩⟩
    have hi : l[i]? = some c := by
      rw [List.getElem?_take] at hc
      split at hc
      · exact hc
      · cases hc
    have := World.ownsRow.cells h (g := g) rfl (i * 5 + j) v (chs_at l i c hi j v hv)
    rw [addr_add, Nat.zero_add] at this
    rw [Nat.zero_add]
    exact this
theorem loose_form {w : World} {v : Value} {l : List Ch} (h : w.ownsRow 0 104 5 v l.length (chs l)) : ∃ ao c, v = .slice ao l.length c := by
  rcases h.2 with ⟨rfl, h0⟩ | ⟨g, cap, cur, rfl, _⟩
  · exact ⟨_, _, by rw [h0]⟩
  · exact ⟨_, _, rfl⟩
theorem loose_blk {w : World} {v : Value} {l : List Ch} (h : w.ownsRow 0 104 5 v l.length (chs l)) (hl : 0 < l.length) : v.ownBlock = some (blkOfD v) := by
  rcases h.2 with ⟨rfl, h0⟩ | ⟨g, cap, cur, rfl, _⟩
  · omega
  · rfl
section
set_option maxRecDepth 10000
set_option maxHeartbeats 4000000
theorem append_nil (nm s : ByteArray) (w : World) : Calls Tryd.prog 46 #[.pointer none, .string nm, .string s] w fun e w' => e = .returned (.int .i64 7) ∧ w' = w := by
  have HD := hide fun W => dead_nil W
  go_enter Tryd.func46, Tryd.ntmps46
  go_wp2_with (go_at_call 43; refine (HD.out _).mono ?_; rintro e w1 ⟨rfl, hw⟩; subst w1)
  go_ret
  exact ⟨rfl, rfl⟩
theorem append_ok (gd : Nat) (x : StD) (T : Nat → Prop) (nm s : ByteArray) (w : World) (h : DK w gd x T) (hV : Vd x) (hp : x.plan = []) (hr : rdy x.dead [nm] = 0) (hs : (x.now.at (ls nm)).length + s.size ≤ 16777216) (hroom : (x.now.get (ls nm)).isSome = true ∨ x.now.n < 64) (hmany : x.loose.length < 10000) (hmade : x.made < 1000000) : Calls Tryd.prog 46 #[.pointer (some ⟨gd, 0, none⟩), .string nm, .string s] w fun e w' => e = .returned (.int .i64 0) ∧ DK w' gd (mkC x (wrC nm (x.now.at (ls nm)).length s)) (grow T w w') ∧ Fr T w w' := by
  have HW := hide (write_ok gd x T nm _ s w h hV hp hr (Nat.le_refl _) hs hroom hmany hmade)
  obtain ⟨S1, S2, mn, ms, vo, vp, h⟩ := h
  obtain ⟨hdead, hname⟩ := rdy_ok hr
  have hm : nm.size ≤ maxLen := by
    have := (name_len hname).2
    have e : (ls nm).length = nm.size := by simp
    unfold maxLen
    omega
  have c5 := h.cell 5 (by decide)
  have c0 := h.cell 0 (by decide)
  rw [show dc mn ms vo vp x.made x.dead 5 = .bool x.dead from rfl, hdead] at c5
  rw [show dc mn ms vo vp x.made x.dead 0 = .map mn from rfl] at c0
  have HD := hide (dead_cell gd false w c5)
  obtain ⟨v, hl1, hl2, ov⟩ := h.now.look hm
  obtain ⟨ao, n, c, rfl, hn⟩ := ov.form
  rw [← hn.out] at HW ⊢
  clear h hV hp hr hs hroom hmany hmade hdead hname hm hl2 ov hn c5
  go_enter Tryd.func46, Tryd.ntmps46
  go_wp2_with (first | (go_at_call 43; refine HD.out.mono ?_; rintro e w1 ⟨rfl, hw⟩; subst w1) | (go_at_call 66; refine HW.out.mono ?_; rintro e w1 ⟨rfl, hd⟩; have HF := hide hd; clear hd))
  go_ret
  exact ⟨rfl, HF.out⟩
theorem append_err (gd : Nat) (x : StD) (T : Nat → Prop) (nm s : ByteArray) (w : World) (h : DK w gd x T) (hb : Bd x.now) (hm : nm.size ≤ maxLen) (hs : s.size ≤ maxLen) (he : wrE x nm (x.now.at (ls nm)).length s ≠ 0) : Calls Tryd.prog 46 #[.pointer (some ⟨gd, 0, none⟩), .string nm, .string s] w fun e w' => e = .returned (.int .i64 (wrE x nm (x.now.at (ls nm)).length s)) ∧ Below w.heap.size w w' := by
  have HW := hide (write_err gd x T nm (x.now.at (ls nm)).length s w h hb hm hs (by omega) (by have := hb.len (ls nm); omega) he)
  obtain ⟨S1, S2, mn, ms, vo, vp, h⟩ := h
  have c5 := h.cell 5 (by decide)
  have c0 := h.cell 0 (by decide)
  rw [show dc mn ms vo vp x.made x.dead 5 = .bool x.dead from rfl] at c5
  rw [show dc mn ms vo vp x.made x.dead 0 = .map mn from rfl] at c0
  have HD := hide (dead_cell gd x.dead w c5)
  obtain ⟨v, hl1, hl2, ov⟩ := h.now.look hm
  obtain ⟨ao, n, c, rfl, hn⟩ := ov.form
  cases hdd : x.dead
  · rw [hdd] at HD
    rw [← hn.out] at HW ⊢
    generalize wrE x nm n s = E at *
    clear h hb hs hm hl2 ov hn c5 hdd he
    go_enter Tryd.func46, Tryd.ntmps46
    go_wp2_with (first | (go_at_call 43; refine HD.out.mono ?_; rintro e w1 ⟨rfl, hw⟩; subst w1) | (go_at_call 66; refine HW.out.mono ?_; rintro e w1 ⟨rfl, hd⟩; have HF := hide hd; clear hd))
    go_ret
    exact ⟨rfl, HF.out⟩
  · rw [hdd] at HD
    have e7 : wrE x nm (x.now.at (ls nm)).length s = 7 := by
      have : rdy x.dead [nm] = 7 := by
        rw [hdd]
        rfl
      unfold wrE
      rw [this]
      rfl
    rw [e7]
    clear h hb hs hm hl2 ov hn c5 hdd he HW e7
    go_enter Tryd.func46, Tryd.ntmps46
    go_wp2_with (first | (go_at_call 43; refine HD.out.mono ?_; rintro e w1 ⟨rfl, hw⟩; subst w1))
    go_ret
    exact ⟨rfl, Below.refl _ _⟩
end
end Go.Proofs.YtgncphoaknffnaaDoor
namespace Go.Proofs.YtgncphoaknffnaaDoor
open Go.RowKit
open Go.Deep
open Go.Lib
theorem cutv_all {w : World} {v : Value} {l : List Ch} (h : w.ownsRow 0 104 5 v l.length (chs l)) : cutv v l.length = v := by
  obtain ⟨ao, c, rfl⟩ := loose_form h
  rfl
/-- A disk whose changes are all sure. -/
def syC (x : StD) : StD := { x with sure := doL x.sure x.loose, loose := [] }
section
set_option maxRecDepth 10000
set_option maxHeartbeats 4000000
theorem sync_nil (w : World) : Calls Tryd.prog 47 #[.pointer none] w fun e w' => e = .returned (.int .i64 7) ∧ w' = w := by
  have HD := hide fun W => dead_nil W
  go_enter Tryd.func47, Tryd.ntmps47
  go_wp2_with (go_at_call 43; refine (HD.out _).mono ?_; rintro e w1 ⟨rfl, hw⟩; subst w1)
  go_ret
  exact ⟨rfl, rfl⟩
theorem sync_ok (gd : Nat) (x : StD) (T : Nat → Prop) (w : World) (h : DK w gd x T) (hV : Vd x) (hp : x.plan = []) (hdd : x.dead = false) : Calls Tryd.prog 47 #[.pointer (some ⟨gd, 0, none⟩)] w fun e w' => e = .returned (.int .i64 0) ∧ DK w' gd (syC x) (grow T w w') ∧ Fr T w w' := by
  have HS := hide (strikes_none gd x T true w h hp)
  have HL := hide h.lt
  obtain ⟨S1, S2, mn, ms, vo, vp, h⟩ := h
  have c5 := h.cell 5 (by decide)
  rw [show dc mn ms vo vp x.made x.dead 5 = .bool x.dead from rfl, hdd] at c5
  have HD := hide (dead_cell gd false w c5)
  have H0 := hide h
  have HV := hide hV
  obtain ⟨ao, cc, rfl⟩ := loose_form h.loose
  clear h hV hp c5
  go_enter Tryd.func47, Tryd.ntmps47
  go_upto_region 3 with (first | (go_at_call 43; refine HD.out.mono ?_; rintro e w1 ⟨rfl, hw⟩; subst w1) | (go_at_call 71; refine HS.out.mono ?_; rintro e w1 ⟨rfl, hb1⟩; have B1 := hide hb1; clear hb1))
  have D1 := hide (H0.out.below B1.out)
  have x2 := D1.out.cell 2 (by decide)
  rw [show dc mn ms (.slice ao x.loose.length cc) vp x.made x.dead 2 = .slice ao x.loose.length cc from rfl] at x2
  have X2 := hide x2
  have LL := LC.of_rows D1.out.loose x.loose.length (Nat.le_refl _)
  rw [cutv_all D1.out.loose, List.take_length] at LL
  have D1d := hide (D1.out.below (Below.refl w1.heap.size w1).drew)
  have HP := hide (play_any gd 1 6 71 _ (by decide) ms x.sure S2 _ _ x.loose w1.drew D1d.out.row rfl D1d.out.sure D1d.out.d2 (LL.of_block rfl) (fun h0 => by
    have hb := loose_blk D1d.out.loose h0
    exact ⟨D1d.out.lt _ (D1d.out.tl _ hb), (D1d.out.l1 _ hb).2.1, (D1d.out.l1 _ hb).2.2⟩) HV.out.ok.okL (by have := HV.out.many; omega))
  clear LL x2
  refine wp_region_held_drew (S := fun W => W.cell? ⟨gd, 2, none⟩ = some (.slice ao x.loose.length cc)) (by kernel_rfl) X2.out (fun hH => ?_)
  refine wpAnyH_take (i := 0) (v := .pointer (some ⟨gd, 0, none⟩)) rfl (by kernel_rfl) (by kernel_rfl) (by kernel_rfl) (fun _ _ _ h => h) (yl_move (by rfl) _ (by rfl) _ (by rfl)) hH ?_
  change wpAnyH _ _ _ _ _ _ _ (Act.put _ (some 9) _) _
  simp only [Act.put, List.setIfInBounds_toArray, List.set_cons_zero, List.set_cons_succ]
  refine wpAnyH_take (i := 1) (v := .pointer (some ⟨gd, 0, none⟩)) rfl (by kernel_rfl) (by kernel_rfl) (by kernel_rfl) (fun _ _ _ h => h) (.inl ⟨by rfl, fun W _ => by go_simp⟩) hH ?_
  change wpAnyH _ _ _ _ _ _ _ (Act.put _ (some 10) _) _
  simp only [Act.put, List.setIfInBounds_toArray, List.set_cons_zero, List.set_cons_succ]
  refine wpAnyH_take (i := 2) (v := .pointer (some ⟨gd, 1, none⟩)) rfl (by kernel_rfl) (by kernel_rfl) (by kernel_rfl) (fun _ _ _ h => h) (.inl ⟨by rfl, fun W _ => by go_simp⟩) hH ?_
  change wpAnyH _ _ _ _ _ _ _ (Act.put _ (some 11) _) _
  simp only [Act.put, List.setIfInBounds_toArray, List.set_cons_zero, List.set_cons_succ]
  refine wpAnyH_take (i := 3) (v := .pointer (some ⟨gd, 0, none⟩)) rfl (by kernel_rfl) (by kernel_rfl) (by kernel_rfl) (fun _ _ _ h => h) (yl_move (by rfl) _ (by rfl) _ (by rfl)) hH ?_
  change wpAnyH _ _ _ _ _ _ _ (Act.put _ (some 12) _) _
  simp only [Act.put, List.setIfInBounds_toArray, List.set_cons_zero, List.set_cons_succ]
  refine wpAnyH_take (i := 4) (v := .pointer (some ⟨gd, 0, none⟩)) rfl (by kernel_rfl) (by kernel_rfl) (by kernel_rfl) (fun _ _ _ h => h) (.inl ⟨by rfl, fun W _ => by go_simp⟩) hH ?_
  change wpAnyH _ _ _ _ _ _ _ (Act.put _ (some 13) _) _
  simp only [Act.put, List.setIfInBounds_toArray, List.set_cons_zero, List.set_cons_succ]
  refine wpAnyH_take (i := 5) (v := .pointer (some ⟨gd, 2, none⟩)) rfl (by kernel_rfl) (by kernel_rfl) (by kernel_rfl) (fun _ _ _ h => h) (.inl ⟨by rfl, fun W _ => by go_simp⟩) hH ?_
  change wpAnyH _ _ _ _ _ _ _ (Act.put _ (some 14) _) _
  simp only [Act.put, List.setIfInBounds_toArray, List.set_cons_zero, List.set_cons_succ]
  refine wpAnyH_take (i := 6) (v := .slice ao x.loose.length cc) rfl (by kernel_rfl) (by kernel_rfl) (by kernel_rfl) (fun _ _ _ h => h) (.inl ⟨by rfl, fun W hS => by have c4 := hS; go_simp⟩) hH ?_
  change wpAnyH _ _ _ _ _ _ _ (Act.put _ (some 15) _) _
  simp only [Act.put, List.setIfInBounds_toArray, List.set_cons_zero, List.set_cons_succ]
  refine wpAnyH_ready (rs := [7]) (by kernel_rfl) (by simp) (AllReadyH.cons rfl (fun K1 hK1 => ?_) AllReadyH.nil)
  go_simp
  refine HP.out.mono ?_
  rintro e w3 ⟨⟨r, rfl⟩, b3, F3, f3, row3, fr3⟩
  have P3 := hide (D1d.out.played1 f3 row3 fr3)
  have y2 := P3.out.1.cell 2 (by decide)
  rw [show dc mn (some b3) (.slice ao x.loose.length cc) vp x.made x.dead 2 = .slice ao x.loose.length cc from rfl] at y2
  have z2 := World.rowIs.frozen P3.out.1.row 2
  have FIN : Hid (DK (w3.setCell ⟨gd, 2, none⟩ (.slice none 0 0)) gd (syC x) (grow T w (w3.setCell ⟨gd, 2, none⟩ (.slice none 0 0))) ∧ Fr T w (w3.setCell ⟨gd, 2, none⟩ (.slice none 0 0))) := by
    have hsz : (w3.setCell ⟨gd, 2, none⟩ (.slice none 0 0)).heap.size = w3.heap.size := by simp [World.setCell]
    have hb1 : Below w.heap.size w w1.drew := B1.out.drew
    have fr := ((Fr.of_below (S := T) hb1).trans' P3.out.2).trans' (Fr.setCell w3 (p := ⟨gd, 2, none⟩) H0.out.tg (.slice none 0 0))
    refine ⟨⟨_, _, _, _, _, _, P3.out.1.noLoose.wide (fun g hg => ?_) (grow_lt HL.out fr.size)⟩, fr⟩
    rcases hg with e | ⟨e1, e2⟩
    · exact .inl e
    · exact .inr ⟨Nat.le_trans hb1.size e1, by rw [hsz]; exact e2⟩
  clear f3 row3 fr3
  refine hK1.out _ _ y2 (fun hH => ?_)
  clear hK1 P3 HP D1d D1 X2
  refine wpAnyH_done (by kernel_rfl) ?_ _
  go_wp2
  go_ret
  exact ⟨rfl, FIN.out⟩
end
end Go.Proofs.YtgncphoaknffnaaDoor
