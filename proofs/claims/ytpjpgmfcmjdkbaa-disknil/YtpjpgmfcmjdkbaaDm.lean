/- The contracts of strikes (without a plan) and torn. -/
import Derived.Test.YtpjpgmfcmjdkbaaDl
namespace Go.Proofs.Ytpjpgmfcmjdkbaa
open Go.RowKit
open Go.Deep
open Go.Lib
section
set_option maxRecDepth 10000
set_option maxHeartbeats 1000000
theorem index_none (ao : Option Addr) (cap : Nat) (fv : Value) (w : World) : Calls Try.prog 55 #[.slice ao 0 cap, fv] w fun e w' => e = .returned (.int .i64 (-1)) ∧ w' = w := by
  go_enter Try.func55, Try.ntmps55
  go_wp2
  go_loop [8] (fun i => i = .int .i64 0) (fun _ => 0)
  case atStart => rfl
  case round =>
    subst hrel
    go_wp2
    go_ret
    exact ⟨rfl, rfl⟩
theorem strikes_none (gd : Nat) (x : St) (T : Nat → Prop) (b : Bool) (w : World) (h : DK w gd x T) (hp : x.plan = []) : Calls Try.prog 39 #[.pointer (some ⟨gd, 0, none⟩), .bool b] w fun e w' => e = .returned (.bool false) ∧ Below w.heap.size w w' := by
  obtain ⟨S1, S2, mn, ms, vo, vp, h⟩ := h
  have hpl := h.plan
  rw [hp] at hpl
  have hv : ∃ ao cap, vp = .slice ao 0 cap := by
    rcases hpl.2 with ⟨rfl, _⟩ | ⟨g, cap, cur, rfl, _⟩
    · exact ⟨_, _, rfl⟩
    · exact ⟨_, _, rfl⟩
  obtain ⟨ao, cap, rfl⟩ := hv
  have hB : Below w.heap.size w ((w.alloc (.cells #[.pointer (some ⟨gd, 0, none⟩)] 23)).alloc (.cells #[.bool b] 4)) := ((Below.refl _ _).alloc (Nat.le_refl _) _).alloc (by simp) _
  have c4 := (h.below hB).cell 4 (by decide)
  rw [show dc mn ms vo (.slice ao 0 cap) x.made x.dead 4 = .slice ao 0 cap from rfl] at c4
  have HB := hide hB
  have HI := hide fun fv W => index_none ao cap fv W
  clear h hB hpl hp
  go_enter Try.func39, Try.ntmps39
  go_wp2_with (go_at_call 55; refine (HI.out _ _).mono ?_; rintro e w1 ⟨rfl, hw⟩; subst w1)
  go_ret
  exact ⟨rfl, HB.out⟩
/-- What of a change stays when the power fails at it. -/
def tornC (c : Ch) (n : Int) : Ch := ⟨c.kind, c.name, c.dst, c.pos, c.s.extract 0 (min n.toNat c.s.size)⟩
def tornB (c : Ch) (n : Int) : Bool := decide (c.kind = 0) && decide (1 ≤ n)
theorem torn_no (c : Ch) (n : Int) (w : World) (h : tornB c n = false) : Calls Try.prog 58 #[.agg (chv c), .int .i64 n] w fun e w' => e = .returned (.tuple #[.agg zch, .bool false]) ∧ Below w.heap.size w w' := by
  unfold tornB at h
  unfold chv zch
  have h0 := ACh.alloc
  have hb0 := ACh.build
  unfold zch at h0 hb0
  by_cases hk : (c.kind : Int) = 0
  · have hn : ¬ 1 ≤ n := fun e => by
      have : c.kind = 0 := by omega
      simp [this, e] at h
    have hn1 : n < 1 := by omega
    clear h hn
    go_enter Try.func58, Try.ntmps58
    go_wp2
    refine bodyPost_ret (v := .tuple #[.agg #[.int .i64 0, .string ⟨#[]⟩, .string ⟨#[]⟩, .int .i64 0, .string ⟨#[]⟩], .bool false]) ?_ rfl ⟨rfl, ((Below.refl _ _).alloc (Nat.le_refl _) _).alloc (by simp) _⟩
    unfold results
    rw [Try.results58]
    go_simp
  · have hk1 : ((c.kind : Int) == 0) = false := by simpa using hk
    clear h
    go_enter Try.func58, Try.ntmps58
    go_wp2
    refine bodyPost_ret (v := .tuple #[.agg #[.int .i64 0, .string ⟨#[]⟩, .string ⟨#[]⟩, .int .i64 0, .string ⟨#[]⟩], .bool false]) ?_ rfl ⟨rfl, ((Below.refl _ _).alloc (Nat.le_refl _) _).alloc (by simp) _⟩
    unfold results
    rw [Try.results58]
    go_simp
theorem torn_yes (c : Ch) (n : Int) (w : World) (h : tornB c n = true) : Calls Try.prog 58 #[.agg (chv c), .int .i64 n] w fun e w' => e = .returned (.tuple #[.agg (chv (tornC c n)), .bool true]) ∧ Below w.heap.size w w' := by
  unfold tornB at h
  simp only [Bool.and_eq_true, decide_eq_true_eq] at h
  obtain ⟨hk, hn⟩ := h
  have hk0 : (c.kind : Int) = 0 := by omega
  have hn1 : ¬ n < 1 := by omega
  unfold tornC chv
  have h0 := ACh.alloc
  unfold zch at h0
  by_cases hl : n ≤ (c.s.size : Int)
  · rw [show min n.toNat c.s.size = n.toNat by omega]
    have i0 : (0 : Int) ≤ n := by omega
    go_enter Try.func58, Try.ntmps58
    go_wp2
    refine bodyPost_ret (v := .tuple #[.agg #[.int .i64 0, .string c.name, .string c.dst, .int .i64 (c.pos : Int), .string (c.s.extract 0 n.toNat)], .bool true]) ?_ rfl ⟨rfl, ((Below.refl _ _).alloc (Nat.le_refl _) _).alloc (by simp) _⟩
    unfold results
    rw [Try.results58]
    go_simp
  · have hx : c.s.extract 0 (min n.toNat c.s.size) = c.s := by
      rw [show min n.toNat c.s.size = c.s.size by omega]
      exact ByteArray.extract_zero_size
    rw [hx]
    have hl1 : (c.s.size : Int) < n := by omega
    go_enter Try.func58, Try.ntmps58
    go_wp2
    refine bodyPost_ret (v := .tuple #[.agg #[.int .i64 0, .string c.name, .string c.dst, .int .i64 (c.pos : Int), .string c.s], .bool true]) ?_ rfl ⟨rfl, ((Below.refl _ _).alloc (Nat.le_refl _) _).alloc (by simp) _⟩
    unfold results
    rw [Try.results58]
    go_simp
end
end Go.Proofs.Ytpjpgmfcmjdkbaa
