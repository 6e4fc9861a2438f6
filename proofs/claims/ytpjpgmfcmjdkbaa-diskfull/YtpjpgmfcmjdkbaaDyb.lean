/- The contract of Remove. -/
import Derived.Test.YtpjpgmfcmjdkbaaDv
namespace Go.Proofs.Ytpjpgmfcmjdkbaa
open Go.RowKit
open Go.Deep
open Go.Lib
/-- A removal that is made. -/
def rmC (nm : ByteArray) : Ch := ⟨3, nm, ⟨#[]⟩, 0, ⟨#[]⟩⟩
theorem at_del (f : FS) (k x : List UInt8) : (f.del k).at x = if x = k then [] else f.at x := by
  unfold FS.at
  rw [FS.del_get]
  split <;> rfl
theorem rm_ok {f : FS} {nm : ByteArray} (hb : Bd f) (hn : isName (ls nm) = true) : okD f (rmC nm) := by
  have h32 := (name_len hn).2
  have hsz : nm.size ≤ 32 := by simpa using h32
  refine ⟨by simp [rmC], hsz, (by show ByteArray.size ⟨#[]⟩ ≤ 32; decide), fun h => absurd h (by simp [rmC]), (by show ByteArray.size ⟨#[]⟩ ≤ 16777216; decide), hb, ⟨?_, fun x => ?_⟩⟩
  · show (f.del (ls nm)).n ≤ 64
    show (if (f.get (ls nm)).isSome then f.n - 1 else f.n) ≤ 64
    have := hb.n
    split <;> omega
  · show ((f.del (ls nm)).at x).length ≤ 16777216
    rw [at_del]
    split
    · simp
    · exact hb.len x
section
set_option maxRecDepth 10000
set_option maxHeartbeats 4000000
theorem remove_ok (gd : Nat) (x : St) (T : Nat → Prop) (nm : ByteArray) (w : World) (h : DK w gd x T) (hV : Vd x) (hp : x.plan = []) (hf : fnd x nm = 0) (hn : isName (ls nm) = true) (hmany : x.loose.length < 10000) (hmade : x.made < 1000000) : Calls Try.prog 17 #[.pointer (some ⟨gd, 0, none⟩), .string nm] w fun e w' => e = .returned (.int .i64 0) ∧ DK w' gd (mkC x (rmC nm)) (grow T w w') ∧ Fr T w w' := by
  have hm : nm.size ≤ maxLen := by
    have := (name_len hn).2
    have e : (ls nm).length = nm.size := by simp
    unfold maxLen
    omega
  have HF := hide (find_any gd x T nm w h hm)
  rw [hf] at HF
  have HDo : Hid (∀ W, Below w.heap.size w W → Calls Try.prog 44 #[.pointer (some ⟨gd, 0, none⟩), .agg #[.int .i64 3, .string nm, .string ⟨#[]⟩, .int .i64 0, .string ⟨#[]⟩]] W fun e w' => e = .returned (.int .i64 0) ∧ DK w' gd (mkC x (rmC nm)) (grow T W w') ∧ Fr T W w') := fun W hb => do_any gd x T (rmC nm) W (h.below hb) hV hp (rm_ok hV.bd hn) hmany hmade
  have HL := hide h.lt
  clear h hV hp hf hn hmany hmade hm
  go_enter Try.func17, Try.ntmps17
  go_wp2_with (first | (go_at_call 42; refine HF.out.mono ?_; rintro e w1 ⟨⟨v, rfl, o⟩, hb⟩; have HB := hide hb; clear hb o) | (go_at_call 44; refine (HDo.out _ HB.out).mono ?_; rintro e w2 ⟨rfl, hd, hf⟩; have HE := hide (dk_grow HB.out HL.out hd hf); clear hd hf))
  go_ret
  exact ⟨rfl, HE.out⟩
end
end Go.Proofs.Ytpjpgmfcmjdkbaa
