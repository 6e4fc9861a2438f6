/- The walks of long and of DiskFull. -/
import Derived.Test.YtpjpgmfcmjdkbaaDyc
namespace Go.Proofs.Ytpjpgmfcmjdkbaa
open Go.RowKit
open Go.Deep
open Go.Lib
/-- A file as long as may be. -/
structure Big (x : St) (s : ByteArray) : Prop where
  vd : Vd x
  plan : x.plan = []
  dead : x.dead = false
  has : (x.now.get (ls (nm2 1))).isSome = true
  len : (x.now.at (ls (nm2 1))).length = 16777216
  many : x.loose.length ≤ 1001
  made : x.made ≤ 1001
theorem Lon.big {x : St} (h : Lon x) (s : ByteArray) (hs : s.size = 16777216) : Big (mkC x (wrC (nm2 1) 0 s)) s := by
  have hm := h.many
  have hmd := h.made
  have ok : okD x.now (wrC (nm2 1) 0 s) := wr_ok h.vd.bd (nm2_name (by decide)) (Nat.zero_le _) (by omega) (.inl h.has)
  have hnow : (mkC x (wrC (nm2 1) 0 s)).now = x.now.put (ls (nm2 1)) (wr8 (x.now.at (ls (nm2 1))) 0 (ls s)) := rfl
  refine ⟨h.vd.mkC ok (by omega) (by omega), h.plan, h.dead, ?_, ?_, ?_, ?_⟩
  · rw [hnow, FS.put_get, if_pos rfl]
    rfl
  · rw [hnow, at_put, if_pos rfl, h.emp, wr8_len _ _ _ (Nat.zero_le _)]
    have : (ls s).length = s.size := by simp
    simp only [List.length_nil]
    omega
  · show (x.loose ++ [_]).length ≤ 1001
    simp
    omega
  · show x.made + 1 ≤ 1001
    omega
theorem Big.full {x : St} {s : ByteArray} (h : Big x s) (k : Int) (t : ByteArray) (h1 : 0 ≤ k) (h2 : k ≤ 16777216) (h3 : 16777216 - k < (t.size : Int)) : wrE x (nm2 1) k t = 71 := by
  unfold wrE
  have := h.len
  rw [h.dead, rdy_of (nm2_name (by decide)), if_pos rfl, if_neg (by omega), if_pos (.inl h3)]
section
set_option maxRecDepth 10000
set_option maxHeartbeats 4000000
theorem long_any (B w : World) (gd : Nat) (x : St) (T : Nat → Prop) (J : DB B w gd x T) (L : Lon x) : Calls Try.prog 18 #[.pointer (some ⟨gd, 0, none⟩)] w fun e w' => e = .returned (.bool true) ∧ Below B.heap.size B w' := by
  have HJ := hide J
  have HL := hide L
  clear J L
  go_enter Try.func18, Try.ntmps18
  go_wp2
  go_loop [3] (fun v => ∃ s : ByteArray, v = .string s ∧ (s.size : Int) ≤ 16777216 ∧ Hid (∃ j, j ≤ 20 ∧ s.size = 16 * 2 ^ j)) (fun v => 16777216 - (match v with | .string s => s.size | _ => 0))
  case atStart => exact ⟨_, rfl, by decide, 0, by decide, by decide⟩
  case round =>
    obtain ⟨s, rfl, hle, hj⟩ := hrel
    by_cases hlt : (s.size : Int) < 16777216
    · have h2 : Hid (∃ j, j ≤ 20 ∧ (s ++ s).size = 16 * 2 ^ j) := by
        obtain ⟨j, h1, h2⟩ := hj.out
        refine ⟨j + 1, ?_, ?_⟩
        · rcases Nat.lt_or_ge j 20 with h' | h'
          · exact h'
          · have : j = 20 := by omega
            subst this
            simp at h2
            omega
        · rw [ByteArray.size_append, h2, Nat.pow_succ]
          omega
      have h3 : ((s ++ s).size : Int) ≤ 16777216 := by
        obtain ⟨j, h1, h4⟩ := h2.out
        have := Nat.pow_le_pow_right (show 0 < 2 by decide) h1
        simp at this
        rw [h4]
        omega
      have H3 := hide h3
      have h4 : Hid (0 < s.size) := by
        obtain ⟨j, h1, h4⟩ := hj.out
        have : 0 < 2 ^ j := Nat.pos_of_ne_zero (by simp)
        show 0 < s.size
        omega
      clear h3
      go_wp2
      go_round
      case rel => exact ⟨s ++ s, rfl, H3.out, h2⟩
      case measure =>
        have := h4.out
        simp [ByteArray.size_append]
        omega
    · have hs : s.size = 16777216 := by omega
      have HS := hide hs
      have Bg := hide (HL.out.big s hs)
      have HW : Hid (∀ W T, DK W gd x T → Calls Try.prog 16 #[.pointer (some ⟨gd, 0, none⟩), .string ⟨#[97, 98]⟩, .int .i64 0, .string s] W fun e w' => e = .returned (.int .i64 0) ∧ DK w' gd (mkC x (wrC (nm2 1) 0 s)) (grow T W w') ∧ Fr T W w') := fun W T h => by
        have := write_ok gd x T (nm2 1) 0 s W h HL.out.vd HL.out.plan (by rw [HL.out.dead]; exact rdy_of (nm2_name (by decide))) (Nat.zero_le _) (by omega) (.inl HL.out.has) (by have := HL.out.many; omega) (by have := HL.out.made; omega)
        rw [lit1] at this ⊢
        exact this
      have HSz : Hid (Calls Try.prog 21 #[.pointer (some ⟨gd, 0, none⟩), .string ⟨#[97, 98]⟩] w fun e w' => e = .returned (.tuple #[.int .i64 0, .int .i64 (fnd x (nm2 1))]) ∧ Below w.heap.size w w') := by
        have := size_any gd x T (nm2 1) w HJ.out.dk (nm_le (nm2_name (by decide)))
        have e : (if fnd x (nm2 1) = 0 then x.now.at (ls (nm2 1)) else []) = [] := by
          split
          · exact HL.out.emp
          · rfl
        rw [e, lit1] at this
        rw [lit1]
        exact this
      generalize mkC x (wrC (nm2 1) 0 s) = x2 at *
      have HA : Hid (∀ W T, DK W gd x2 T → Calls Try.prog 11 #[.pointer (some ⟨gd, 0, none⟩), .string ⟨#[97, 98]⟩, .string ⟨#[120]⟩] W fun e w' => e = .returned (.int .i64 71) ∧ Below W.heap.size W w') := fun W T h => by
        have e := Bg.out.full (x2.now.at (ls (nm2 1))).length ⟨#[120]⟩ (by omega) (by have := Bg.out.len; omega) (by have := Bg.out.len; rw [this]; decide)
        have := append_err gd x2 T (nm2 1) ⟨#[120]⟩ W h Bg.out.vd.bd (nm_le (nm2_name (by decide))) (by decide) (by rw [e]; decide)
        rw [e, lit1] at this
        exact this
      have HW2 : Hid (∀ W T, DK W gd x2 T → Calls Try.prog 16 #[.pointer (some ⟨gd, 0, none⟩), .string ⟨#[97, 98]⟩, .int .i64 16777215, .string ⟨#[122, 122]⟩] W fun e w' => e = .returned (.int .i64 71) ∧ Below W.heap.size W w') := fun W T h => by
        have e := Bg.out.full 16777215 ⟨#[122, 122]⟩ (by decide) (by decide) (by decide)
        have := write_err gd x2 T (nm2 1) 16777215 ⟨#[122, 122]⟩ W h Bg.out.vd.bd (nm_le (nm2_name (by decide))) (by decide) (by decide) (by decide) (by rw [e]; decide)
        rw [e, lit1] at this
        exact this
      have HW3 : Hid (∀ W T, DK W gd x2 T → Calls Try.prog 16 #[.pointer (some ⟨gd, 0, none⟩), .string ⟨#[97, 98]⟩, .int .i64 16777215, .string ⟨#[122]⟩] W fun e w' => e = .returned (.int .i64 0) ∧ DK w' gd (mkC x2 (wrC (nm2 1) 16777215 ⟨#[122]⟩)) (grow T W w') ∧ Fr T W w') := fun W T h => by
        have := write_ok gd x2 T (nm2 1) 16777215 ⟨#[122]⟩ W h Bg.out.vd Bg.out.plan (by rw [Bg.out.dead]; exact rdy_of (nm2_name (by decide))) (by have := Bg.out.len; omega) (by decide) (.inl Bg.out.has) (by have := Bg.out.many; omega) (by have := Bg.out.made; omega)
        rw [lit1] at this ⊢
        exact this
      generalize mkC x2 (wrC (nm2 1) 16777215 ⟨#[122]⟩) = x3 at *
      generalize fnd x (nm2 1) = E at *
      have hsz : (s.size : Int) = 16777216 := by omega
      clear hs hle hj hlt HS
      go_wp2_with (first | (go_at_call 21; refine HSz.out.mono ?_; rintro e w1 ⟨rfl, hb⟩; have J1 := hide (HJ.out.next hb); clear hb) | (go_at_call_of 16 (Value.string s); refine (HW.out _ _ J1.out.dk).mono ?_; rintro e w2 ⟨rfl, hd⟩; have J2 := hide (J1.out.step hd); clear hd J1) | (go_at_call 11; refine (HA.out _ _ J2.out.dk).mono ?_; rintro e w3 ⟨rfl, hb⟩; have J3 := hide (J2.out.next hb); clear hb J2) | (go_at_call_of 16 (Value.string ⟨#[122, 122]⟩); refine (HW2.out _ _ J3.out.dk).mono ?_; rintro e w4 ⟨rfl, hb⟩; have J4 := hide (J3.out.next hb); clear hb J3) | (go_at_call_of 16 (Value.string ⟨#[122]⟩); refine (HW3.out _ _ J4.out.dk).mono ?_; rintro e w5 ⟨rfl, hd⟩; have J5 := hide (J4.out.step hd); clear hd J4))
      go_ret
      exact ⟨rfl, J5.out.bel⟩
end
end Go.Proofs.Ytpjpgmfcmjdkbaa
