/- The contracts of Write and Append. -/
import Derived.Test.YtpjpgmfcmjdkbaaDp
namespace Go.Proofs.Ytpjpgmfcmjdkbaa
open Go.RowKit
open Go.Deep
open Go.Lib
/-- A write that is made. -/
def wrC (nm : ByteArray) (k : Nat) (s : ByteArray) : Ch := ⟨0, nm, ⟨#[]⟩, k, s⟩
/-- The error of a write. -/
def wrE (x : St) (nm : ByteArray) (k : Int) (s : ByteArray) : Int :=
  if rdy x.dead [nm] = 0 then
    (if k < 0 ∨ ((x.now.at (ls nm)).length : Int) < k then 1 else if 16777216 - k < (s.size : Int) ∨ ((x.now.get (ls nm)).isSome = false ∧ 64 ≤ x.now.n) then 71 else 0)
  else rdy x.dead [nm]
theorem rdy_ok {d : Bool} {nm : ByteArray} (h : rdy d [nm] = 0) : d = false ∧ isName (ls nm) = true := by
  unfold rdy at h
  cases d
  · refine ⟨rfl, ?_⟩
    cases hn : isName (ls nm)
    · simp [hn] at h
    · rfl
  · simp at h
theorem name_len {l : List UInt8} (h : isName l = true) : 1 ≤ l.length ∧ l.length ≤ 32 := by
  unfold isName at h
  simp at h
  exact ⟨by have := h.1.2; omega, h.2⟩
theorem wr8_len (l : List UInt8) (k : Nat) (s : List UInt8) (hk : k ≤ l.length) : (wr8 l k s).length = max l.length (k + s.length) := by
  simp [wr8]
  omega
theorem at_put (f : FS) (k l x : List UInt8) : (f.put k l).at x = if x = k then l else f.at x := by
  unfold FS.at
  rw [FS.put_get]
  split <;> rfl
/-- A write that is made keeps the bounds. -/
theorem wr_ok {f : FS} {nm s : ByteArray} {k : Nat} (hb : Bd f) (hn : isName (ls nm) = true) (hk : k ≤ (f.at (ls nm)).length) (hs : k + s.size ≤ 16777216) (hr : (f.get (ls nm)).isSome = true ∨ f.n < 64) : okD f (wrC nm k s) := by
  have h32 := (name_len hn).2
  have hsz : nm.size ≤ 32 := by simpa using h32
  refine ⟨by simp [wrC], hsz, (by show ByteArray.size ⟨#[]⟩ ≤ 32; decide), fun _ => hk, by show s.size ≤ _; omega, hb, ⟨?_, fun x => ?_⟩⟩
  · show (f.put (ls nm) (wr8 (f.at (ls nm)) k (ls s))).n ≤ 64
    show (if (f.get (ls nm)).isSome then f.n else f.n + 1) ≤ 64
    have := hb.n
    split
    · exact this
    · rcases hr with hr | hr
      · contradiction
      · omega
  · show ((f.put (ls nm) (wr8 (f.at (ls nm)) k (ls s))).at x).length ≤ 16777216
    rw [at_put]
    split
    · rw [wr8_len _ _ _ hk]
      have := hb.len (ls nm)
      have : (ls s).length = s.size := by simp
      omega
    · exact hb.len x
section
set_option maxRecDepth 10000
set_option maxHeartbeats 4000000
theorem write_nil (nm : ByteArray) (k : Int) (s : ByteArray) (w : World) : Calls Try.prog 16 #[.pointer none, .string nm, .int .i64 k, .string s] w fun e w' => e = .returned (.int .i64 7) ∧ Below w.heap.size w w' := by
  have HD := hide fun v W => ready_nil v W
  have hB : Hid (Below w.heap.size w (w.alloc (.cells #[.string nm] 9))) := (Below.refl _ _).alloc (Nat.le_refl _) _
  go_enter Try.func16, Try.ntmps16
  go_wp2_with (go_at_call 43; refine (HD.out _ _).mono ?_; rintro e w1 ⟨rfl, hw⟩; subst w1)
  go_ret
  exact ⟨rfl, hB.out⟩
theorem write_err (gd : Nat) (x : St) (T : Nat → Prop) (nm : ByteArray) (k : Int) (s : ByteArray) (w : World) (h : DK w gd x T) (hb : Bd x.now) (hm : nm.size ≤ maxLen) (hs : s.size ≤ maxLen) (hk1 : -9223372036854775808 ≤ k) (hk2 : k < 9223372036854775808) (he : wrE x nm k s ≠ 0) : Calls Try.prog 16 #[.pointer (some ⟨gd, 0, none⟩), .string nm, .int .i64 k, .string s] w fun e w' => e = .returned (.int .i64 (wrE x nm k s)) ∧ Below w.heap.size w w' := by
  obtain ⟨S1, S2, mn, ms, vo, vp, h⟩ := h
  have hB : Below w.heap.size w (w.alloc (.cells #[.string nm] 9)) := (Below.refl _ _).alloc (Nat.le_refl _) _
  have h1 := h.below hB
  have c5 := h1.cell 5 (by decide)
  have c0 := h1.cell 0 (by decide)
  rw [show dc mn ms vo vp x.made x.dead 5 = .bool x.dead from rfl] at c5
  rw [show dc mn ms vo vp x.made x.dead 0 = .map mn from rfl] at c0
  have HR := hide (ready_any gd x.dead w.heap.size 1 [nm] _ c5 (one_name w nm hm) (by simp))
  rw [show [nm].length = 1 from rfl] at HR
  obtain ⟨v, hl1, hl2, ov⟩ := h1.now.look hm
  have hlen := h1.now.len
  obtain ⟨ao, n, c, rfl, hn⟩ := ov.form
  have HN := hide (show (n : Int) = (x.now.at (ls nm)).length by rw [hn.out])
  have HB := hide hB
  have BD := hide hb
  unfold maxLen at hs
  unfold wrE at he ⊢
  have hnl := hb.len (ls nm)
  rw [← hn.out] at hnl
  clear h h1 hm hB ov hl1 c5 hn hb
  rcases rdy_cases x.dead [nm] with hr | hr | hr
  · rw [hr, if_pos rfl]
    rw [hr, if_pos rfl] at he
    rw [hr] at HR
    rw [← HN.out] at he ⊢
    clear hr
    by_cases hc1 : k < 0
    · rw [if_pos (.inl hc1)]
      clear he hlen
      generalize (x.now.get (ls nm)).isSome = th at *
      go_enter Try.func16, Try.ntmps16
      go_wp2_with (go_at_call 43; refine HR.out.mono ?_; rintro e w1 ⟨rfl, hw⟩; subst w1)
      go_ret
      exact ⟨rfl, HB.out⟩
    · by_cases hc2 : (n : Int) < k
      · rw [if_pos (.inr hc2)]
        clear he hlen
        generalize (x.now.get (ls nm)).isSome = th at *
        go_enter Try.func16, Try.ntmps16
        go_wp2_with (go_at_call 43; refine HR.out.mono ?_; rintro e w1 ⟨rfl, hw⟩; subst w1)
        go_ret
        exact ⟨rfl, HB.out⟩
      · rw [if_neg (by omega)] at he ⊢
        by_cases hc3 : 16777216 - k < (s.size : Int)
        · rw [if_pos (.inl hc3)]
          clear he hlen
          generalize (x.now.get (ls nm)).isSome = th at *
          have e1 : wrap64 (16777216 - k) = 16777216 - k := by unfold wrap64; omega
          go_enter Try.func16, Try.ntmps16
          go_wp2_with (go_at_call 43; refine HR.out.mono ?_; rintro e w1 ⟨rfl, hw⟩; subst w1)
          go_ret
          exact ⟨rfl, HB.out⟩
        · by_cases hc4 : (x.now.get (ls nm)).isSome = false ∧ 64 ≤ x.now.n
          · rw [if_pos (.inr hc4)]
            rw [hc4.1] at hl2
            have n1 : (64 : Int) ≤ x.now.n := by omega
            clear he hc4
            have e1 : wrap64 (16777216 - k) = 16777216 - k := by unfold wrap64; omega
            go_enter Try.func16, Try.ntmps16
            go_wp2_with (go_at_call 43; refine HR.out.mono ?_; rintro e w1 ⟨rfl, hw⟩; subst w1)
            go_ret
            exact ⟨rfl, HB.out⟩
          · exact absurd (if_neg (fun e => by
              rcases e with e | e
              · exact hc3 e
              · exact hc4 e)) he
  all_goals
    rw [hr, if_neg (by decide)]
    rw [hr] at HR
    clear hr he
    go_enter Try.func16, Try.ntmps16
    go_wp2_with (go_at_call 43; refine HR.out.mono ?_; rintro e w1 ⟨rfl, hw⟩; subst w1)
    go_ret
    exact ⟨rfl, HB.out⟩
theorem dk_grow {w w1 w' : World} {gd : Nat} {x : St} {T : Nat → Prop} (hb : Below w.heap.size w w1) (hl : ∀ g, T g → g < w.heap.size) (h : DK w' gd x (grow T w1 w')) (fr : Fr T w1 w') : DK w' gd x (grow T w w') ∧ Fr T w w' := by
  have r := (Fr.of_below hb).trans' fr
  refine ⟨h.wide (fun g hg => ?_) (grow_lt hl r.size), r⟩
  rcases hg with hg | ⟨h1, h2⟩
  · exact .inl hg
  · exact .inr ⟨Nat.le_trans hb.size h1, h2⟩
theorem write_ok (gd : Nat) (x : St) (T : Nat → Prop) (nm : ByteArray) (k : Nat) (s : ByteArray) (w : World) (h : DK w gd x T) (hV : Vd x) (hp : x.plan = []) (hr : rdy x.dead [nm] = 0) (hk : k ≤ (x.now.at (ls nm)).length) (hs : k + s.size ≤ 16777216) (hroom : (x.now.get (ls nm)).isSome = true ∨ x.now.n < 64) (hmany : x.loose.length < 10000) (hmade : x.made < 1000000) : Calls Try.prog 16 #[.pointer (some ⟨gd, 0, none⟩), .string nm, .int .i64 (k : Int), .string s] w fun e w' => e = .returned (.int .i64 0) ∧ DK w' gd (mkC x (wrC nm k s)) (grow T w w') ∧ Fr T w w' := by
  have hB : Below w.heap.size w (w.alloc (.cells #[.string nm] 9)) := (Below.refl _ _).alloc (Nat.le_refl _) _
  have hbd : Bd x.now := by rw [hV.now]; exact hV.ok.end_
  obtain ⟨hdead, hname⟩ := rdy_ok hr
  have hm : nm.size ≤ maxLen := by
    have := (name_len hname).2
    have e : (ls nm).length = nm.size := by simp
    unfold maxLen
    omega
  have HDo : Hid (Calls Try.prog 44 #[.pointer (some ⟨gd, 0, none⟩), .agg #[.int .i64 0, .string nm, .string ⟨#[]⟩, .int .i64 (k : Int), .string s]] (w.alloc (.cells #[.string nm] 9)) fun e w' => e = .returned (.int .i64 0) ∧ DK w' gd (mkC x (wrC nm k s)) (grow T (w.alloc (.cells #[.string nm] 9)) w') ∧ Fr T (w.alloc (.cells #[.string nm] 9)) w') :=
    do_any gd x T (wrC nm k s) _ (h.below hB) hV hp (wr_ok hbd hname hk hs hroom) hmany hmade
  have HL := hide h.lt
  obtain ⟨S1, S2, mn, ms, vo, vp, h⟩ := h
  have h1 := h.below hB
  have c5 := h1.cell 5 (by decide)
  have c0 := h1.cell 0 (by decide)
  rw [show dc mn ms vo vp x.made x.dead 5 = .bool x.dead from rfl] at c5
  rw [show dc mn ms vo vp x.made x.dead 0 = .map mn from rfl] at c0
  have HR := hide (ready_any gd x.dead w.heap.size 1 [nm] _ c5 (one_name w nm hm) (by simp))
  rw [show [nm].length = 1 from rfl, hr] at HR
  obtain ⟨v, hl1, hl2, ov⟩ := h1.now.look hm
  have hlen := h1.now.len
  obtain ⟨ao, n, c, rfl, hn⟩ := ov.form
  have hkn : (k : Int) ≤ n := by
    rw [hn.out]
    omega
  have hk0 : ¬ (k : Int) < 0 := by omega
  have hkn' : ¬ (n : Int) < (k : Int) := by omega
  have e1 : wrap64 (16777216 - (k : Int)) = 16777216 - k := by unfold wrap64; omega
  have hs' : ¬ 16777216 - (k : Int) < (s.size : Int) := by omega
  have HB := hide hB
  clear h h1 hm hB ov hl1 c5 hn hbd hV hp hk hdead hname hr hs hmany hmade
  cases hth : (x.now.get (ls nm)).isSome
  · rw [hth] at hl2
    have n1 : ¬ (64 : Int) ≤ x.now.n := by
      rcases hroom with e | e
      · rw [hth] at e
        cases e
      · omega
    clear hroom hth
    go_enter Try.func16, Try.ntmps16
    go_wp2_with (first | (go_at_call 43; refine HR.out.mono ?_; rintro e w1 ⟨rfl, hw⟩; subst w1) | (go_at_call 44; refine HDo.out.mono ?_; rintro e w1 ⟨rfl, hd, hf⟩; have HF := hide (dk_grow HB.out HL.out hd hf); clear hd hf))
    go_ret
    exact ⟨rfl, HF.out⟩
  · rw [hth] at hl2
    clear hroom hth
    go_enter Try.func16, Try.ntmps16
    go_wp2_with (first | (go_at_call 43; refine HR.out.mono ?_; rintro e w1 ⟨rfl, hw⟩; subst w1) | (go_at_call 44; refine HDo.out.mono ?_; rintro e w1 ⟨rfl, hd, hf⟩; have HF := hide (dk_grow HB.out HL.out hd hf); clear hd hf))
    go_ret
    exact ⟨rfl, HF.out⟩
end
end Go.Proofs.Ytpjpgmfcmjdkbaa
