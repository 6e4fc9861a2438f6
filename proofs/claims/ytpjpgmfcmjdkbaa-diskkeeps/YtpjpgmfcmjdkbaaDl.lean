/- The contracts of find, Read, Size and Up. -/
import Derived.Test.YtpjpgmfcmjdkbaaDk
namespace Go.Proofs.Ytpjpgmfcmjdkbaa
open Go.RowKit
open Go.Deep
open Go.Lib
/-- The error of a call that needs a file. -/
def fnd (x : St) (nm : ByteArray) : Int := if rdy x.dead [nm] = 0 then (if (x.now.get (ls nm)).isSome then 0 else 2) else rdy x.dead [nm]
theorem rdy_cases (d : Bool) (N : List ByteArray) : rdy d N = 0 ∨ rdy d N = 7 ∨ rdy d N = 70 := by
  unfold rdy
  split
  · exact .inr (.inl rfl)
  · split
    · exact .inl rfl
    · exact .inr (.inr rfl)
theorem one_name (w : World) (nm : ByteArray) (h : nm.size ≤ maxLen) : NmAt (w.alloc (.cells #[.string nm] 9)) w.heap.size [nm] := fun i s hs => by
  have : i = 0 := by
    rcases Nat.lt_or_ge i 1 with h' | h'
    · omega
    · rw [List.getElem?_eq_none (by simpa using h')] at hs
      cases hs
  subst this
  simp at hs
  subst hs
  exact ⟨by rw [cell_of_row _ _ _ _ _ _ (heap_alloc_last w _)]; rfl, h⟩
section
set_option maxRecDepth 10000
set_option maxHeartbeats 1000000
theorem find_nil (nm : ByteArray) (w : World) : Calls Try.prog 42 #[.pointer none, .string nm] w fun e w' => e = .returned (.tuple #[.slice none 0 0, .int .i64 7]) ∧ Below w.heap.size w w' := by
  have HD := hide fun v W => ready_nil v W
  have hB : Hid (Below w.heap.size w (w.alloc (.cells #[.string nm] 9))) := (Below.refl _ _).alloc (Nat.le_refl _) _
  go_enter Try.func42, Try.ntmps42
  go_wp2_with (go_at_call 43; refine (HD.out _ _).mono ?_; rintro e w1 ⟨rfl, hw⟩; subst w1)
  go_ret2
  exact ⟨rfl, hB.out⟩
theorem find_any (gd : Nat) (x : St) (T : Nat → Prop) (nm : ByteArray) (w : World) (h : DK w gd x T) (hm : nm.size ≤ maxLen) : Calls Try.prog 42 #[.pointer (some ⟨gd, 0, none⟩), .string nm] w fun e w' => (∃ v, e = .returned (.tuple #[v, .int .i64 (fnd x nm)]) ∧ Own w' v (if fnd x nm = 0 then x.now.at (ls nm) else [])) ∧ Below w.heap.size w w' := by
  obtain ⟨S1, S2, mn, ms, vo, vp, h⟩ := h
  have hB : Below w.heap.size w (w.alloc (.cells #[.string nm] 9)) := (Below.refl _ _).alloc (Nat.le_refl _) _
  have h1 := h.below hB
  have c5 := h1.cell 5 (by decide)
  have c0 := h1.cell 0 (by decide)
  rw [show dc mn ms vo vp x.made x.dead 5 = .bool x.dead from rfl] at c5
  rw [show dc mn ms vo vp x.made x.dead 0 = .map mn from rfl] at c0
  have HR := hide (ready_any gd x.dead w.heap.size 1 [nm] _ c5 (one_name w nm hm) (by simp))
  rw [show [nm].length = 1 from rfl] at HR
  obtain ⟨v, hl1, hl2, ov⟩ := h1.now.look hm
  obtain ⟨ao, n, c, rfl, _⟩ := ov.form
  have HB := hide hB
  have OV := hide ov
  unfold fnd
  clear h h1 hm hB ov hl1 c5
  rcases rdy_cases x.dead [nm] with hr | hr | hr
  · rw [hr, if_pos rfl]
    rw [hr] at HR
    cases hg : (x.now.get (ls nm)).isSome
    · rw [hg] at hl2
      rw [if_neg (by decide), if_neg (by decide)]
      clear hg hr
      go_enter Try.func42, Try.ntmps42
      go_wp2_with (go_at_call 43; refine HR.out.mono ?_; rintro e w1 ⟨rfl, hw⟩; subst w1)
      go_ret2
      exact ⟨⟨_, rfl, Own.nil _⟩, HB.out⟩
    · rw [hg] at hl2
      rw [if_pos rfl, if_pos rfl]
      clear hg hr
      go_enter Try.func42, Try.ntmps42
      go_wp2_with (go_at_call 43; refine HR.out.mono ?_; rintro e w1 ⟨rfl, hw⟩; subst w1)
      go_ret2
      exact ⟨⟨_, rfl, OV.out⟩, HB.out⟩
  all_goals
    rw [hr, if_neg (by decide), if_neg (by decide)]
    rw [hr] at HR
    clear hr
    go_enter Try.func42, Try.ntmps42
    go_wp2_with (go_at_call 43; refine HR.out.mono ?_; rintro e w1 ⟨rfl, hw⟩; subst w1)
    go_ret2
    exact ⟨⟨_, rfl, Own.nil _⟩, HB.out⟩
theorem read_nil (nm : ByteArray) (w : World) : Calls Try.prog 15 #[.pointer none, .string nm] w fun e w' => e = .returned (.tuple #[.string ⟨#[]⟩, .int .i64 7]) ∧ Below w.heap.size w w' := by
  have HD := hide (find_nil nm w)
  have hc := fun W => conv_own (Own.nil W)
  go_enter Try.func15, Try.ntmps15
  go_wp2_with (go_at_call 42; refine HD.out.mono ?_; rintro e w1 ⟨rfl, hb⟩; have HB := hide hb; clear hb)
  go_ret2
  exact ⟨rfl, HB.out⟩
theorem read_any (gd : Nat) (x : St) (T : Nat → Prop) (nm : ByteArray) (w : World) (h : DK w gd x T) (hm : nm.size ≤ maxLen) : Calls Try.prog 15 #[.pointer (some ⟨gd, 0, none⟩), .string nm] w fun e w' => e = .returned (.tuple #[.string ⟨(if fnd x nm = 0 then x.now.at (ls nm) else []).toArray⟩, .int .i64 (fnd x nm)]) ∧ Below w.heap.size w w' := by
  have HD := hide (find_any gd x T nm w h hm)
  generalize (if fnd x nm = 0 then x.now.at (ls nm) else []) = L at *
  generalize fnd x nm = E at *
  clear h
  go_enter Try.func15, Try.ntmps15
  go_wp2_with (go_at_call 42; refine HD.out.mono ?_; rintro e w1 ⟨⟨v, rfl, o⟩, hb⟩; have HB := hide hb; have hc := conv_own o; clear hb o)
  go_ret2
  exact ⟨rfl, HB.out⟩
theorem size_nil (nm : ByteArray) (w : World) : Calls Try.prog 21 #[.pointer none, .string nm] w fun e w' => e = .returned (.tuple #[.int .i64 0, .int .i64 7]) ∧ Below w.heap.size w w' := by
  have HD := hide (find_nil nm w)
  go_enter Try.func21, Try.ntmps21
  go_wp2_with (go_at_call 42; refine HD.out.mono ?_; rintro e w1 ⟨rfl, hb⟩; have HB := hide hb; clear hb)
  go_ret2
  exact ⟨rfl, HB.out⟩
theorem size_any (gd : Nat) (x : St) (T : Nat → Prop) (nm : ByteArray) (w : World) (h : DK w gd x T) (hm : nm.size ≤ maxLen) : Calls Try.prog 21 #[.pointer (some ⟨gd, 0, none⟩), .string nm] w fun e w' => e = .returned (.tuple #[.int .i64 ((if fnd x nm = 0 then x.now.at (ls nm) else []).length : Int), .int .i64 (fnd x nm)]) ∧ Below w.heap.size w w' := by
  have HD := hide (find_any gd x T nm w h hm)
  generalize (if fnd x nm = 0 then x.now.at (ls nm) else []) = L at *
  generalize fnd x nm = E at *
  clear h
  go_enter Try.func21, Try.ntmps21
  go_wp2_with (go_at_call 42; refine HD.out.mono ?_; rintro e w1 ⟨⟨v, rfl, o⟩, hb⟩; obtain ⟨ao, n, c, rfl, hn⟩ := o.form; have HB := hide hb; clear hb o)
  go_ret2
  exact ⟨by rw [← hn.out]; rfl, HB.out⟩
theorem up_nil (w : World) : Calls Try.prog 14 #[.pointer none] w fun e w' => e = .returned (.bool false) ∧ w' = w := by
  go_enter Try.func14, Try.ntmps14
  go_wp2
  go_ret
  exact ⟨rfl, rfl⟩
theorem DP.setDead {w : World} {gd : Nat} {x : St} {T S1 S2 : Nat → Prop} {mn ms : Option Nat} {vo vp : Value} (h : DP w gd x T S1 S2 mn ms vo vp) (d : Bool) : DP (w.setCell ⟨gd, 5, none⟩ (.bool d)) gd { x with dead := d } T S1 S2 mn ms vo vp := by
  have hb : ∀ g, g ≠ gd → (w.setCell ⟨gd, 5, none⟩ (.bool d)).heap[g]? = w.heap[g]? := fun g hg => Below.heap_setCell _ _ _ _ hg
  have hs : (w.setCell ⟨gd, 5, none⟩ (.bool d)).heap.size = w.heap.size := by simp [World.setCell]
  refine ⟨(World.rowIs.set h.row 5 (.bool d)).congr fun i hi => ?_, h.now.frame (by omega) fun g hg => hb g fun e => h.d1 (e ▸ hg), h.sure.frame (by omega) fun g hg => hb g fun e => h.d2 (e ▸ hg), rowsOf h.loose fun g hg => hb g (h.l1 g hg).2.2, rowsOf h.plan fun g hg => hb g (h.p1 g hg).2.2, h.tg, h.t1, h.t2, h.tl, h.tp, h.apart, h.d1, h.d2, h.l1, h.p1, fun g hg => by rw [hs]; exact h.lt g hg⟩
  have : i = 0 ∨ i = 1 ∨ i = 2 ∨ i = 3 ∨ i = 4 ∨ i = 5 := by omega
  rcases this with rfl | rfl | rfl | rfl | rfl | rfl <;> rfl
theorem up_any (gd : Nat) (x : St) (T : Nat → Prop) (w : World) (h : DK w gd x T) : Calls Try.prog 14 #[.pointer (some ⟨gd, 0, none⟩)] w fun e w' => e = .returned (.bool x.dead) ∧ DK w' gd { x with dead := false } T ∧ Fr T w w' ∧ w'.heap.size = w.heap.size := by
  obtain ⟨S1, S2, mn, ms, vo, vp, h⟩ := h
  have c5 := h.cell 5 (by decide)
  rw [show dc mn ms vo vp x.made x.dead 5 = .bool x.dead from rfl] at c5
  have f5 := World.rowIs.frozen h.row 5
  have H := hide h
  clear h
  cases hd : x.dead
  · rw [hd] at c5
    have e : Hid ({ x with dead := false } = x) := by
      show _ = _
      cases x
      simp only at hd
      rw [hd]
    clear hd
    go_enter Try.func14, Try.ntmps14
    go_wp2
    go_ret
    exact ⟨rfl, by rw [e.out]; exact ⟨S1, S2, mn, ms, vo, vp, H.out⟩, Fr.refl _ _, rfl⟩
  · rw [hd] at c5
    clear hd
    go_enter Try.func14, Try.ntmps14
    go_wp2
    go_ret
    exact ⟨rfl, ⟨S1, S2, mn, ms, vo, vp, H.out.setDead false⟩, Fr.setCell _ H.out.tg _, by simp [World.setCell]⟩
end
end Go.Proofs.Ytpjpgmfcmjdkbaa
