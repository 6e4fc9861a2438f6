/- The contracts of ready, find, Read, Size and Up. -/
import Derived.Test.YtpjpgmfcmjdkbaaDj
namespace Go.Proofs.Ytpjpgmfcmjdkbaa
open Go.RowKit
open Go.Deep
open Go.Lib
/-- The first error of a call with these names. -/
def rdy (dead : Bool) (N : List ByteArray) : Int := if dead then 7 else if N.all (fun s => isName (ls s)) then 0 else 70
/-- Names in a slice at block g. -/
def NmAt (w : World) (g : Nat) (N : List ByteArray) : Prop := ∀ i s, N[i]? = some s → w.cell? ⟨g, i, none⟩ = some (.string s) ∧ s.size ≤ maxLen
theorem names_snoc (N : List ByteArray) (k : Nat) (s : ByteArray) (h : N[k]? = some s) : (N.take (k + 1)).all (fun s => isName (ls s)) = ((N.take k).all (fun s => isName (ls s)) && isName (ls s)) := by
  rw [List.take_add_one, h]
  simp
section
set_option maxRecDepth 10000
set_option maxHeartbeats 1000000
theorem ready_nil (v : Value) (w : World) : Calls Try.prog 43 #[.pointer none, v] w fun e w' => e = .returned (.int .i64 7) ∧ w' = w := by
  have HD := hide fun W => dead_nil W
  go_enter Try.func43, Try.ntmps43
  go_wp2_with (go_at_call 26; refine (HD.out _).mono ?_; rintro e w' ⟨rfl, rfl⟩)
  go_ret
  exact ⟨rfl, rfl⟩
theorem ready_any (gd : Nat) (dead : Bool) (g cap : Nat) (N : List ByteArray) (w : World) (hd : w.cell? ⟨gd, 5, none⟩ = some (.bool dead)) (hN : NmAt w g N) (hn : N.length ≤ 1000) : Calls Try.prog 43 #[.pointer (some ⟨gd, 0, none⟩), .slice (some ⟨g, 0, none⟩) N.length cap] w fun e w' => e = .returned (.int .i64 (rdy dead N)) ∧ w' = w := by
  have HD := hide (dead_cell gd dead w hd)
  have HN := hide hN
  clear hd hN
  cases dead
  · unfold rdy
    rw [if_neg (by decide)]
    obtain ⟨R, hR⟩ : ∃ R, R = (if N.all (fun s => isName (ls s)) then (0 : Int) else 70) := ⟨_, rfl⟩
    rw [← hR]
    have HR := hide hR
    clear hR
    go_enter Try.func43, Try.ntmps43
    go_wp2_with (go_at_call 26; refine HD.out.mono ?_; rintro e w1 ⟨rfl, hw⟩; subst w1)
    go_loop [11] (fun i => ∃ k : Nat, k ≤ N.length ∧ i = .int .i64 k ∧ Hid ((N.take k).all (fun s => isName (ls s)) = true)) (fun i => (N.length - intOf i).toNat)
    case atStart => exact ⟨0, Nat.zero_le _, rfl, rfl⟩
    case round =>
      obtain ⟨k, hk, rfl, ha⟩ := hrel
      by_cases hlt : k < N.length
      · obtain ⟨s, hs⟩ : ∃ s, N[k]? = some s := ⟨_, List.getElem?_eq_getElem hlt⟩
        obtain ⟨hc, hm⟩ := HN.out k s hs
        have SN := hide (names_snoc N k s hs)
        have HI := hide fun W => isName_any s W hm
        have k0 : (0 : Int) ≤ k := by omega
        have k1 : (k : Int) < N.length := by omega
        cases hb : isName (ls s)
        · have hno : Hid (R = 70) := by
            show _ = _
            rw [HR.out, if_neg]
            intro e
            have h1 := SN.out
            rw [hb, Bool.and_false] at h1
            rw [← List.take_append_drop (k + 1) N, List.all_append, h1] at e
            simp at e
          rw [show isName s.data.toList = false from hb] at HI
          clear SN hb hm hs
          go_wp2_with (go_at_call 59; refine (HI.out _).mono ?_; rintro e w1 ⟨rfl, hw⟩; subst w1)
          go_ret
          exact ⟨by rw [hno.out]; rfl, rfl⟩
        · have hyes : Hid ((N.take (k + 1)).all (fun s => isName (ls s)) = true) := by
            show _ = _
            rw [SN.out, ha.out, hb]
            rfl
          rw [show isName s.data.toList = true from hb] at HI
          clear SN hb hm hs
          go_wp2_with (go_at_call 59; refine (HI.out _).mono ?_; rintro e w1 ⟨rfl, hw⟩; subst w1)
          go_round
          case rel => exact ⟨k + 1, by omega, by go_num, hyes⟩
          case measure => simp [intOf]; omega
      · have hke : k = N.length := by omega
        subst hke
        have hall : Hid (R = 0) := by
          show _ = _
          have h1 := ha.out
          rw [List.take_length] at h1
          rw [HR.out, if_pos h1]
        go_wp2
        go_ret
        exact ⟨by rw [hall.out]; rfl, rfl⟩
  · unfold rdy
    rw [if_pos rfl]
    go_enter Try.func43, Try.ntmps43
    go_wp2_with (go_at_call 26; refine HD.out.mono ?_; rintro e w1 ⟨rfl, hw⟩; subst w1)
    go_ret
    exact ⟨rfl, rfl⟩
end
end Go.Proofs.Ytpjpgmfcmjdkbaa
