/- The contract of the law's bits: the same bits. -/
import Derived.Test.YthlaibkdcebekaaDoorNx1
namespace Go.Proofs.YthlaibkdcebekaaDoor
open Go.RowKit
open Go.Deep
section
set_option maxRecDepth 10000
set_option maxHeartbeats 4000000
theorem bits_any (v1 v2 : Value) (ms : List Bool) (w : World) (h1 : LB w v1 ms) (h2 : LB w v2 ms) (hn : ms.length < 4398046511104) : Calls Tryd.prog 11 #[v1, v2] w fun e w' => e = .returned (.bool true) ∧ Below w.heap.size w w' := by
  obtain ⟨ao, cap, rfl, _⟩ := h1.form
  obtain ⟨bo, cap2, rfl, _⟩ := h2.form
  have H1 := hide h1
  have H2 := hide h2
  have HN := hide hn
  have J0 := hide (Below.refl w.heap.size w)
  clear h1 h2 hn
  go_enter Tryd.func11, Tryd.ntmps11
  go_wp2
  go_loopw [5, 13] (fun _ d wr => ∃ k : Nat, k ≤ ms.length ∧ d = .int .i64 (k : Int) ∧ Hid (Below w.heap.size w wr)) (fun _ d _ => (ms.length - intOf d).toNat)
  case atStart => exact ⟨0, Nat.zero_le _, rfl, J0⟩
  case round =>
    clear J0
    obtain ⟨k, hk, rfl, J⟩ := hrel
    have hn := HN.out
    by_cases hlt : k < ms.length
    · obtain ⟨g, off, rfl⟩ := H1.out.base (by omega)
      obtain ⟨g2, off2, rfl⟩ := H2.out.base (by omega)
      have h1 : (k : Int) < (ms.length : Int) := by omega
      have h2 : (0 : Int) ≤ (k : Int) := by omega
      have e2 : IntKind.i64.wrap ((k : Int) + 1) = k + 1 := wrapI _ (by omega) (by omega)
      have c1 := (H1.out.below J.out).cell k hlt
      have c2 := (H2.out.below J.out).cell k hlt
      have KK := hide (And.intro (show k + 1 ≤ ms.length by omega) (show ((ms.length : Int) - ((k + 1 : Nat) : Int)).toNat < ((ms.length : Int) - (k : Int)).toNat by omega))
      generalize ms.getD k false = b at *
      clear hlt hk hn
      have J2 := hide J.out.drew
      go_upto_region 6 with fail
      go_region
      all_goals
        go_wp2
        exact ⟨⟨k + 1, KK.out.1, by go_num, J2⟩, by simpa [intOf] using KK.out.2⟩
    · have h1 : ¬ (k : Int) < (ms.length : Int) := by omega
      clear hlt hk hn
      go_wp2
      go_ret
      exact ⟨rfl, J.out⟩
end
end Go.Proofs.YthlaibkdcebekaaDoor
