/- The document's Payload of any kind, and its Encode. The document's Command: its contract. The document's Payload of any kind, and its Encode. -/
import Derived.Test.YtkoidjaaojmcnaaGreatM33
import Derived.Test.YtkoidjaaojmcnaaGreatM09
namespace Go.Proofs.YtkoidjaaojmcnaaGreat
open Go.RowKit
open Go.Deep
set_option linter.unusedVariables false
set_option linter.unusedSimpArgs false
theorem Mg.many_named (m : Mg) : m.namedK.manyB = m.more := by
  unfold Mg.namedK Mg.more
  by_cases h0 : m.kind = 1
  · rw [if_pos h0]
    rw [if_pos h0]
    simp [Mg.manyB, zM]
  rw [if_neg h0]
  rw [if_neg h0]
  by_cases h1 : m.kind = 5 ∨ m.kind = 6
  · rw [if_pos h1]
    rw [if_neg (by omega)]; rw [if_neg (by omega)]; rw [if_neg (by omega)]; rw [if_neg (by omega)]; rw [if_neg (by omega)]; rw [if_neg (by omega)]; rw [if_neg (by omega)]
    simp [Mg.manyB, zM]
  rw [if_neg h1]
  by_cases h2 : m.kind = 7
  · rw [if_pos h2]
    rw [if_pos h2]
    simp [Mg.manyB, zM]
  rw [if_neg h2]
  rw [if_neg h2]
  by_cases h3 : m.kind = 8 ∨ m.kind = 9 ∨ m.kind = 10
  · rw [if_pos h3]
    rw [if_pos h3]
    simp [Mg.manyB, zM]
  rw [if_neg h3]
  rw [if_neg h3]
  by_cases h4 : m.kind = 11
  · rw [if_pos h4]
    rw [if_pos h4]
    simp [Mg.manyB, zM]
  rw [if_neg h4]
  rw [if_neg h4]
  by_cases h5 : m.kind = 12
  · rw [if_pos h5]
    rw [if_pos h5]
    simp [Mg.manyB, zM]
  rw [if_neg h5]
  rw [if_neg h5]
  by_cases h6 : m.kind = 13 ∨ m.kind = 14
  · rw [if_pos h6]
    rw [if_neg (by omega)]; rw [if_neg (by omega)]; rw [if_neg (by omega)]
    simp [Mg.manyB, zM]
  rw [if_neg h6]
  by_cases h7 : m.kind = 15
  · rw [if_pos h7]
    rw [if_neg (by omega)]; rw [if_neg (by omega)]; rw [if_neg (by omega)]
    simp [Mg.manyB, zM]
  rw [if_neg h7]
  by_cases h8 : m.kind = 16
  · rw [if_pos h8]
    rw [if_pos h8]
    simp [Mg.manyB, zM, Bool.or_assoc]
  rw [if_neg h8]
  rw [if_neg h8]
  by_cases h9 : m.kind = 17
  · rw [if_pos h9]
    rw [if_pos h9]
    simp [Mg.manyB, zM]
  rw [if_neg h9]
  rw [if_neg h9]
  by_cases h10 : m.kind = 18
  · rw [if_pos h10]
    rw [if_pos h10]
    simp [Mg.manyB, zM]
  rw [if_neg h10]
  rw [if_neg h10]
  simp [Mg.manyB, zM]
theorem Mg.odd_form (m : Mg) : m.oddB = !(m.form && decide (m.bareK = bareM m.kind 0)) := by
  by_cases h : m = m.namedK
  · rw [decide_eq_true (m.named_iff.1 h), Bool.and_true]
    have h1 := congrArg Mg.heads h
    have h2 := congrArg Mg.shorts h
    have h3 := congrArg Mg.filled h
    have h4 := congrArg Mg.places h
    unfold Mg.oddB
    rw [decide_eq_true h]
    clear h
    unfold Mg.namedK at h1 h2 h3 h4
    unfold Mg.form
    by_cases k0 : m.kind = 1
    · rw [if_pos k0] at h1 h2 h3 h4
      simp only [zM] at h1 h2 h3 h4
      rw [if_neg (show ¬ m.kind = 12 by omega), if_neg (show ¬ m.kind = 16 by omega), if_neg (show ¬ m.kind = 17 by omega), h1, h2, h3, h4, decide_eq_false (show ¬ m.kind = 16 by omega)]
      simp [riseB]
    rw [if_neg k0] at h1 h2 h3 h4
    by_cases k1 : m.kind = 5 ∨ m.kind = 6
    · rw [if_pos k1] at h1 h2 h3 h4
      simp only [zM] at h1 h2 h3 h4
      rw [if_neg (show ¬ m.kind = 12 by omega), if_neg (show ¬ m.kind = 16 by omega), if_neg (show ¬ m.kind = 17 by omega), h1, h2, h3, h4, decide_eq_false (show ¬ m.kind = 16 by omega)]
      simp [riseB]
    rw [if_neg k1] at h1 h2 h3 h4
    by_cases k2 : m.kind = 7
    · rw [if_pos k2] at h1 h2 h3 h4
      simp only [zM] at h1 h2 h3 h4
      rw [if_neg (show ¬ m.kind = 12 by omega), if_neg (show ¬ m.kind = 16 by omega), if_neg (show ¬ m.kind = 17 by omega), h1, h2, h3, h4, decide_eq_false (show ¬ m.kind = 16 by omega)]
      simp [riseB]
    rw [if_neg k2] at h1 h2 h3 h4
    by_cases k3 : m.kind = 8 ∨ m.kind = 9 ∨ m.kind = 10
    · rw [if_pos k3] at h1 h2 h3 h4
      simp only [zM] at h1 h2 h3 h4
      rw [if_neg (show ¬ m.kind = 12 by omega), if_neg (show ¬ m.kind = 16 by omega), if_neg (show ¬ m.kind = 17 by omega), h1, h2, h3, h4, decide_eq_false (show ¬ m.kind = 16 by omega)]
      simp [riseB]
    rw [if_neg k3] at h1 h2 h3 h4
    by_cases k4 : m.kind = 11
    · rw [if_pos k4] at h1 h2 h3 h4
      simp only [zM] at h1 h2 h3 h4
      rw [if_neg (show ¬ m.kind = 12 by omega), if_neg (show ¬ m.kind = 16 by omega), if_neg (show ¬ m.kind = 17 by omega), h1, h2, h3, h4, decide_eq_false (show ¬ m.kind = 16 by omega)]
      simp [riseB]
    rw [if_neg k4] at h1 h2 h3 h4
    by_cases k5 : m.kind = 12
    · rw [if_pos k5] at h1 h2 h3 h4
      simp only [zM] at h1 h2 h3 h4
      rw [if_pos k5, h2, h3, h4, decide_eq_false (show ¬ m.kind = 16 by omega)]
      simp [riseB]
    rw [if_neg k5] at h1 h2 h3 h4
    by_cases k6 : m.kind = 13 ∨ m.kind = 14
    · rw [if_pos k6] at h1 h2 h3 h4
      simp only [zM] at h1 h2 h3 h4
      rw [if_neg (show ¬ m.kind = 12 by omega), if_neg (show ¬ m.kind = 16 by omega), if_neg (show ¬ m.kind = 17 by omega), h1, h2, h3, h4, decide_eq_false (show ¬ m.kind = 16 by omega)]
      simp [riseB]
    rw [if_neg k6] at h1 h2 h3 h4
    by_cases k7 : m.kind = 15
    · rw [if_pos k7] at h1 h2 h3 h4
      simp only [zM] at h1 h2 h3 h4
      rw [if_neg (show ¬ m.kind = 12 by omega), if_neg (show ¬ m.kind = 16 by omega), if_neg (show ¬ m.kind = 17 by omega), h1, h2, h3, h4, decide_eq_false (show ¬ m.kind = 16 by omega)]
      simp [riseB]
    rw [if_neg k7] at h1 h2 h3 h4
    by_cases k8 : m.kind = 16
    · rw [if_pos k8] at h1 h2 h3 h4
      simp only [zM] at h1 h2 h3 h4
      rw [if_neg (show ¬ m.kind = 12 by omega), if_pos k8, h1, h4, decide_eq_true k8]
      simp [riseB, Bool.or_assoc]
    rw [if_neg k8] at h1 h2 h3 h4
    by_cases k9 : m.kind = 17
    · rw [if_pos k9] at h1 h2 h3 h4
      simp only [zM] at h1 h2 h3 h4
      rw [if_neg (show ¬ m.kind = 12 by omega), if_neg (show ¬ m.kind = 16 by omega), if_pos k9, h1, h2, h3, decide_eq_false (show ¬ m.kind = 16 by omega)]
      simp [riseB]
    rw [if_neg k9] at h1 h2 h3 h4
    by_cases k10 : m.kind = 18
    · rw [if_pos k10] at h1 h2 h3 h4
      simp only [zM] at h1 h2 h3 h4
      rw [if_neg (show ¬ m.kind = 12 by omega), if_neg (show ¬ m.kind = 16 by omega), if_neg (show ¬ m.kind = 17 by omega), h1, h2, h3, h4, decide_eq_false (show ¬ m.kind = 16 by omega)]
      simp [riseB]
    rw [if_neg k10] at h1 h2 h3 h4
    simp only [zM] at h1 h2 h3 h4
    rw [if_neg (show ¬ m.kind = 12 by omega), if_neg (show ¬ m.kind = 16 by omega), if_neg (show ¬ m.kind = 17 by omega), h1, h2, h3, h4, decide_eq_false (show ¬ m.kind = 16 by omega)]
    simp [riseB]
  · rw [decide_eq_false (fun e => h (m.named_iff.2 e))]
    unfold Mg.oddB
    rw [decide_eq_false h]
    simp
end Go.Proofs.YtkoidjaaojmcnaaGreat
namespace Go.Proofs.YtkoidjaaojmcnaaGreat
open Go.RowKit
open Go.Deep
section
set_option maxRecDepth 10000
set_option maxHeartbeats 4000000
theorem rcommand_any (k : Int) (w : World) : Calls Tryz.prog 22 #[.int .i64 k] w fun e w' => e = .returned (.string (cmd k)) ∧ Below w.heap.size w w' := by
  by_cases h : 1 ≤ k ∧ k ≤ 18
  · obtain ⟨n, rfl⟩ := Int.eq_ofNat_of_zero_le (show 0 ≤ k by omega)
    obtain ⟨m, rfl⟩ : ∃ m : Fin 18, n = m.val + 1 := ⟨⟨n - 1, by omega⟩, by simp; omega⟩
    rw [cmd_in _ (by omega) (by omega)]
    clear h
    match m with
    | ⟨0, _⟩ =>
      simp only [cmdN]
      go_enter Tryz.func22, Tryz.ntmps22
      go_wp2
      go_ret
      exact ⟨rfl, (Below.refl _ _).alloc (Nat.le_refl _) _⟩
    | ⟨1, _⟩ =>
      simp only [cmdN]
      go_enter Tryz.func22, Tryz.ntmps22
      go_wp2
      go_ret
      exact ⟨rfl, (Below.refl _ _).alloc (Nat.le_refl _) _⟩
    | ⟨2, _⟩ =>
      simp only [cmdN]
      go_enter Tryz.func22, Tryz.ntmps22
      go_wp2
      go_ret
      exact ⟨rfl, (Below.refl _ _).alloc (Nat.le_refl _) _⟩
    | ⟨3, _⟩ =>
      simp only [cmdN]
      go_enter Tryz.func22, Tryz.ntmps22
      go_wp2
      go_ret
      exact ⟨rfl, (Below.refl _ _).alloc (Nat.le_refl _) _⟩
    | ⟨4, _⟩ =>
      simp only [cmdN]
      go_enter Tryz.func22, Tryz.ntmps22
      go_wp2
      go_ret
      exact ⟨rfl, (Below.refl _ _).alloc (Nat.le_refl _) _⟩
    | ⟨5, _⟩ =>
      simp only [cmdN]
      go_enter Tryz.func22, Tryz.ntmps22
      go_wp2
      go_ret
      exact ⟨rfl, (Below.refl _ _).alloc (Nat.le_refl _) _⟩
    | ⟨6, _⟩ =>
      simp only [cmdN]
      go_enter Tryz.func22, Tryz.ntmps22
      go_wp2
      go_ret
      exact ⟨rfl, (Below.refl _ _).alloc (Nat.le_refl _) _⟩
    | ⟨7, _⟩ =>
      simp only [cmdN]
      go_enter Tryz.func22, Tryz.ntmps22
      go_wp2
      go_ret
      exact ⟨rfl, (Below.refl _ _).alloc (Nat.le_refl _) _⟩
    | ⟨8, _⟩ =>
      simp only [cmdN]
      go_enter Tryz.func22, Tryz.ntmps22
      go_wp2
      go_ret
      exact ⟨rfl, (Below.refl _ _).alloc (Nat.le_refl _) _⟩
    | ⟨9, _⟩ =>
      simp only [cmdN]
      go_enter Tryz.func22, Tryz.ntmps22
      go_wp2
      go_ret
      exact ⟨rfl, (Below.refl _ _).alloc (Nat.le_refl _) _⟩
    | ⟨10, _⟩ =>
      simp only [cmdN]
      go_enter Tryz.func22, Tryz.ntmps22
      go_wp2
      go_ret
      exact ⟨rfl, (Below.refl _ _).alloc (Nat.le_refl _) _⟩
    | ⟨11, _⟩ =>
      simp only [cmdN]
      go_enter Tryz.func22, Tryz.ntmps22
      go_wp2
      go_ret
      exact ⟨rfl, (Below.refl _ _).alloc (Nat.le_refl _) _⟩
    | ⟨12, _⟩ =>
      simp only [cmdN]
      go_enter Tryz.func22, Tryz.ntmps22
      go_wp2
      go_ret
      exact ⟨rfl, (Below.refl _ _).alloc (Nat.le_refl _) _⟩
    | ⟨13, _⟩ =>
      simp only [cmdN]
      go_enter Tryz.func22, Tryz.ntmps22
      go_wp2
      go_ret
      exact ⟨rfl, (Below.refl _ _).alloc (Nat.le_refl _) _⟩
    | ⟨14, _⟩ =>
      simp only [cmdN]
      go_enter Tryz.func22, Tryz.ntmps22
      go_wp2
      go_ret
      exact ⟨rfl, (Below.refl _ _).alloc (Nat.le_refl _) _⟩
    | ⟨15, _⟩ =>
      simp only [cmdN]
      go_enter Tryz.func22, Tryz.ntmps22
      go_wp2
      go_ret
      exact ⟨rfl, (Below.refl _ _).alloc (Nat.le_refl _) _⟩
    | ⟨16, _⟩ =>
      simp only [cmdN]
      go_enter Tryz.func22, Tryz.ntmps22
      go_wp2
      go_ret
      exact ⟨rfl, (Below.refl _ _).alloc (Nat.le_refl _) _⟩
    | ⟨17, _⟩ =>
      simp only [cmdN]
      go_enter Tryz.func22, Tryz.ntmps22
      go_wp2
      go_ret
      exact ⟨rfl, (Below.refl _ _).alloc (Nat.le_refl _) _⟩
    | ⟨n + 18, h⟩ => exact absurd h (by omega)
  · rw [cmd_out k h]
    have hc : k < 1 ∨ (¬ k < 1 ∧ 19 ≤ k) := by omega
    clear h
    rcases hc with h1 | ⟨h1, h2⟩
    all_goals
      go_enter Tryz.func22, Tryz.ntmps22
      go_wp2
      go_ret
      exact ⟨rfl, (Below.refl _ _).alloc (Nat.le_refl _) _⟩
end
end Go.Proofs.YtkoidjaaojmcnaaGreat
namespace Go.Proofs.YtkoidjaaojmcnaaGreat
open Go.RowKit
open Go.Deep
set_option linter.unusedVariables false
set_option linter.unusedSimpArgs false
section
set_option maxRecDepth 10000
set_option maxHeartbeats 8000000
theorem rpay_any (m : Mg) (s : Vs) (w : World) (hk : 1 ≤ m.kind ∧ m.kind ≤ 18) (hR : MR w s m) (hm : m.more = false) (hf : m.form = true) : Calls Tryz.prog 26 #[.agg (m.cells s).toArray] w fun e w' => e = .returned (.string (txt m.pay)) ∧ Below w.heap.size w w' := by
  by_cases h1 : m.kind = 1
  · rw [show m.pay = m.payV by unfold Mg.pay; rw [if_pos (by omega)]]
    exact pay_1 m s w h1 (by have := hm; unfold Mg.more at this; rw [if_pos (by omega)] at this; simpa using this)
  by_cases h2 : m.kind = 2
  · rw [show m.pay = [] by unfold Mg.pay; rw [if_neg (by omega), if_neg (by omega), if_neg (by omega), if_neg (by omega), if_neg (by omega), if_neg (by omega), if_neg (by omega), if_neg (by omega), if_neg (by omega), if_neg (by omega), if_neg (by omega)]]
    exact pay_2 m s w h2 
  by_cases h3 : m.kind = 3
  · rw [show m.pay = [] by unfold Mg.pay; rw [if_neg (by omega), if_neg (by omega), if_neg (by omega), if_neg (by omega), if_neg (by omega), if_neg (by omega), if_neg (by omega), if_neg (by omega), if_neg (by omega), if_neg (by omega), if_neg (by omega)]]
    exact pay_3 m s w h3 
  by_cases h4 : m.kind = 4
  · rw [show m.pay = [] by unfold Mg.pay; rw [if_neg (by omega), if_neg (by omega), if_neg (by omega), if_neg (by omega), if_neg (by omega), if_neg (by omega), if_neg (by omega), if_neg (by omega), if_neg (by omega), if_neg (by omega), if_neg (by omega)]]
    exact pay_4 m s w h4 
  by_cases h5 : m.kind = 5
  · rw [show m.pay = lowL m.nonce.toNat 8 by unfold Mg.pay; rw [if_neg (by omega), if_pos (by omega)]]
    exact pay_5 m s w h5 
  by_cases h6 : m.kind = 6
  · rw [show m.pay = lowL m.nonce.toNat 8 by unfold Mg.pay; rw [if_neg (by omega), if_pos (by omega)]]
    exact pay_6 m s w h6 
  by_cases h7 : m.kind = 7
  · rw [show m.pay = countL m.addrs.length ++ m.addrs.flatMap Nt.full by unfold Mg.pay; rw [if_neg (by omega), if_neg (by omega), if_pos (by omega)]]
    exact pay_7 m s w h7 hR (by have := hm; unfold Mg.more at this; rw [if_neg (by omega)] at this; rw [if_pos (by omega)] at this; simpa using this)
  by_cases h8 : m.kind = 8
  · rw [show m.pay = countL m.items.length ++ m.items.flatMap Im.bytes by unfold Mg.pay; rw [if_neg (by omega), if_neg (by omega), if_neg (by omega), if_pos (by omega)]]
    exact pay_8 m s w h8 hR (by have := hm; unfold Mg.more at this; rw [if_neg (by omega)] at this; rw [if_neg (by omega)] at this; rw [if_pos (by omega)] at this; simpa using this)
  by_cases h9 : m.kind = 9
  · rw [show m.pay = countL m.items.length ++ m.items.flatMap Im.bytes by unfold Mg.pay; rw [if_neg (by omega), if_neg (by omega), if_neg (by omega), if_pos (by omega)]]
    exact pay_9 m s w h9 hR (by have := hm; unfold Mg.more at this; rw [if_neg (by omega)] at this; rw [if_neg (by omega)] at this; rw [if_pos (by omega)] at this; simpa using this)
  by_cases h10 : m.kind = 10
  · rw [show m.pay = countL m.items.length ++ m.items.flatMap Im.bytes by unfold Mg.pay; rw [if_neg (by omega), if_neg (by omega), if_neg (by omega), if_pos (by omega)]]
    exact pay_10 m s w h10 hR (by have := hm; unfold Mg.more at this; rw [if_neg (by omega)] at this; rw [if_neg (by omega)] at this; rw [if_pos (by omega)] at this; simpa using this)
  by_cases h11 : m.kind = 11
  · rw [show m.pay = lowL m.vers.toNat 4 ++ (countL m.hashes.length ++ m.hashes.flatMap (fun x : Id32 => x.1) ++ m.stop.1) by unfold Mg.pay; rw [if_neg (by omega), if_neg (by omega), if_neg (by omega), if_neg (by omega), if_pos (by omega)]]
    exact pay_11 m s w h11 hR (by have := hm; unfold Mg.more at this; rw [if_neg (by omega)] at this; rw [if_neg (by omega)] at this; rw [if_neg (by omega)] at this; rw [if_pos (by omega)] at this; simpa using this)
  by_cases h12 : m.kind = 12
  · rw [show m.pay = countL m.heads.length ++ m.heads.flatMap (fun x : ByteArray => x.data.toList ++ [0]) by unfold Mg.pay; rw [if_neg (by omega), if_neg (by omega), if_neg (by omega), if_neg (by omega), if_neg (by omega), if_pos (by omega)]]
    exact pay_12 m s w h12 hR (by have := hm; unfold Mg.more at this; rw [if_neg (by omega)] at this; rw [if_neg (by omega)] at this; rw [if_neg (by omega)] at this; rw [if_neg (by omega)] at this; rw [if_pos (by omega)] at this; simpa using this) (fun x hx => by have := hf; unfold Mg.form at this; rw [if_pos h12] at this; simp only [Bool.not_eq_true', List.any_eq_false, decide_eq_true_eq] at this; have := this x hx; omega)
  by_cases h13 : m.kind = 13
  · rw [show m.pay = m.raw.data.toList by unfold Mg.pay; rw [if_neg (by omega), if_neg (by omega), if_neg (by omega), if_neg (by omega), if_neg (by omega), if_neg (by omega), if_pos (by omega)]]
    exact pay_13 m s w h13 
  by_cases h14 : m.kind = 14
  · rw [show m.pay = m.raw.data.toList by unfold Mg.pay; rw [if_neg (by omega), if_neg (by omega), if_neg (by omega), if_neg (by omega), if_neg (by omega), if_neg (by omega), if_pos (by omega)]]
    exact pay_14 m s w h14 
  by_cases h15 : m.kind = 15
  · rw [show m.pay = flagL m.high ++ lowL m.nonce.toNat 8 by unfold Mg.pay; rw [if_neg (by omega), if_neg (by omega), if_neg (by omega), if_neg (by omega), if_neg (by omega), if_neg (by omega), if_neg (by omega), if_pos (by omega)]]
    exact pay_15 m s w h15 
  by_cases h16 : m.kind = 16
  · rw [show m.pay = m.payC by unfold Mg.pay; rw [if_neg (by omega), if_neg (by omega), if_neg (by omega), if_neg (by omega), if_neg (by omega), if_neg (by omega), if_neg (by omega), if_neg (by omega), if_pos (by omega)]]
    exact pay_16 m s w h16 hR (by have := hf; unfold Mg.form at this; rw [if_neg (by omega), if_pos h16] at this; simp only [Bool.and_eq_true, decide_eq_true_eq] at this; omega) (Mg.more16 h16 hm).1 (Mg.more16 h16 hm).2.1 (Mg.more16 h16 hm).2.2 (by have := hf; unfold Mg.form at this; rw [if_neg (by omega), if_pos h16] at this; simp only [Bool.and_eq_true, decide_eq_true_eq] at this; exact (riseB_iff _ _).1 this.2)
  by_cases h17 : m.kind = 17
  · rw [show m.pay = m.hash.1 ++ (countL m.places.length ++ gapsL (-1) m.places) by unfold Mg.pay; rw [if_neg (by omega), if_neg (by omega), if_neg (by omega), if_neg (by omega), if_neg (by omega), if_neg (by omega), if_neg (by omega), if_neg (by omega), if_neg (by omega), if_pos (by omega)]]
    exact pay_17 m s w h17 hR (by have := hm; unfold Mg.more at this; rw [if_neg (by omega)] at this; rw [if_neg (by omega)] at this; rw [if_neg (by omega)] at this; rw [if_neg (by omega)] at this; rw [if_neg (by omega)] at this; rw [if_neg (by omega)] at this; rw [if_pos (by omega)] at this; simpa using this) (by have := hf; unfold Mg.form at this; rw [if_neg (by omega), if_neg (by omega), if_pos h17] at this; exact (riseB_iff _ _).1 this)
  by_cases h18 : m.kind = 18
  · rw [show m.pay = m.hash.1 ++ (countL m.raws.length ++ m.raws.flatMap rawL) by unfold Mg.pay; rw [if_neg (by omega), if_neg (by omega), if_neg (by omega), if_neg (by omega), if_neg (by omega), if_neg (by omega), if_neg (by omega), if_neg (by omega), if_neg (by omega), if_neg (by omega), if_pos (by omega)]]
    exact pay_18 m s w h18 hR (Mg.more18 h18 hm).1 (Mg.more18 h18 hm).2
  omega
theorem rencode_any (m : Mg) (s : Vs) (w : World) (hR : MR w s m) (hfit : m.fit) (hr : m.raw.size ≤ 140737488351232) : Calls Tryz.prog 5 #[.agg (m.cells s).toArray] w fun e w' => e = .returned (.tuple #[.string (txt m.encL), .int .i64 m.encE]) ∧ Below w.heap.size w w' := by
  have r1 := heap_alloc_last w (.cells (m.cells s).toArray 50)
  have b1 : Below w.heap.size w (w.alloc (.cells (m.cells s).toArray 50)) := (Below.refl w.heap.size w).alloc (Nat.le_refl _) _
  have B1 := hide b1
  have c0 := (Mc.of (m := m) (s := s) r1).f0
  have R0 := hide r1
  have HZ := hide (m.size s)
  have HC := hide (rcommand_any m.kind (w.alloc (.cells (m.cells s).toArray 50)))
  have X0 := hide (hR.below b1)
  by_cases hk : 1 ≤ m.kind ∧ m.kind ≤ 18
  case neg =>
    have e1 : m.encE = 90 := by unfold Mg.encE; rw [if_pos hk]
    have e2 : m.encL = [] := by unfold Mg.encL; rw [e1]; rfl
    rw [e1, e2]
    have hp := cmd_none m.kind hk
    generalize cmd m.kind = cm at *
    clear r1 b1 hR hfit hr hk e1 e2
    go_enter Tryz.func5, Tryz.ntmps5
    go_wp2_with (first | (go_at_call 22; with_reducible refine HC.out.mono ?_; rintro e W1 ⟨rfl, be⟩; have C1 := hide (below_next B1.out be); have R1 := hide ((be.block _ (lt_heap R0.out)).trans R0.out); have X1 := hide (X0.out.below be); clear be) | (with_reducible refine at_list ?_; refine wpList_boxA rfl _ rfl (m.cells s).toArray rfl ?_))
    go_ret2
    exact ⟨rfl, C1.out⟩
  have hp := cmd_some m.kind hk
  generalize cmd m.kind = cm at *
  have HFI := hide hfit
  have HRR := hide hr
  have HKK := hide hk
  have HNM : Hid (∀ W, MR W s m → Calls Tryz.prog 24 #[.agg (m.cells s).toArray] W fun e w' => ∃ s', e = .returned (.agg (m.namedK.cells s').toArray) ∧ s'.ok ∧ (∀ W, MR W s m → MR W s' m.namedK) ∧ Below W.heap.size W w') := fun W h => named_any m s W h
  have HMN : Hid (∀ W s', MR W s' m.namedK → Calls Tryz.prog 23 #[.agg (m.namedK.cells s').toArray] W fun e w' => e = .returned (.bool m.more) ∧ Below W.heap.size W w') := fun W s' h => by rw [← m.many_named]; exact many_any m.namedK s' W h
  have HOD : Hid (∀ W, MR W s m → Calls Tryz.prog 25 #[.agg (m.cells s).toArray] W fun e w' => e = .returned (.bool m.oddB) ∧ Below W.heap.size W w') := fun W h => odd_any m s W h HFI.out
  clear r1 b1 hR hfit hr hk
  go_enter Tryz.func5, Tryz.ntmps5
  go_upto_region 3 with (first | (go_at_call 22; with_reducible refine HC.out.mono ?_; rintro e W1 ⟨rfl, be⟩; have C1 := hide (below_next B1.out be); have R1 := hide ((be.block _ (lt_heap R0.out)).trans R0.out); have X1 := hide (X0.out.below be); clear be) | (with_reducible refine at_list ?_; refine wpList_boxA rfl _ rfl (m.cells s).toArray rfl ?_))
  clear HC hp c0 B1 R0 X0
  generalize hnk : m.namedK = mk at *
  clear hnk
  cases hmore : m.more
  case true =>
    have e1 : m.encE = 5 := by unfold Mg.encE; rw [if_neg (by have := HKK.out; omega), if_pos hmore]
    have e2 : m.encL = [] := by unfold Mg.encL; rw [e1]; rfl
    have E1 := hide e1
    have E2 := hide e2
    rw [hmore] at HMN
    clear e1 e2 hmore HOD
    go_wp2_with (first | (go_at_call 24; with_reducible refine (HNM.out _ X1.out).mono ?_; rintro e W2 ⟨s2, rfl, ok2, ml2, be⟩; have C2 := hide (below_next C1.out be); have X2 := hide (ml2 _ (X1.out.below be)); clear be ok2 ml2) | (go_at_call 23; with_reducible refine (HMN.out _ _ X2.out).mono ?_; rintro e W3 ⟨rfl, be⟩; have C3 := hide (below_next C2.out be); clear be) | (with_reducible refine at_list ?_; refine wpList_loadS AMr _ rfl w.heap.size rfl (m.cells s).toArray HZ.out 50 R1.out rfl ?_))
    go_ret2
    exact ⟨by rw [E1.out, E2.out]; rfl, C3.out⟩
  rw [hmore] at HMN
  have HMO := hide hmore
  clear hmore
  go_upto_region 5 with (first | (go_at_call 24; with_reducible refine (HNM.out _ X1.out).mono ?_; rintro e W2 ⟨s2, rfl, ok2, ml2, be⟩; have C2 := hide (below_next C1.out be); have X2 := hide (ml2 _ (X1.out.below be)); have Y2 := hide (X1.out.below be); have R2 := hide ((be.block _ (lt_heap R1.out)).trans R1.out); clear be ok2 ml2) | (go_at_call 23; with_reducible refine (HMN.out _ _ X2.out).mono ?_; rintro e W3 ⟨rfl, be⟩; have C3 := hide (below_next C2.out be); have Y3 := hide (Y2.out.below be); have R3 := hide ((be.block _ (lt_heap R2.out)).trans R2.out); clear be) | (with_reducible refine at_list ?_; refine wpList_loadS AMr _ rfl w.heap.size rfl (m.cells s).toArray HZ.out 50 R1.out rfl ?_))
  clear C1 R1 X1 HNM HMN C2 X2 Y2 R2
  have EE : Hid (m.encE = if m.oddB = true then 1 else if 16384 < m.pay.length then 110 else 0) := by
    show _ = _
    unfold Mg.encE
    rw [if_neg (by have := HKK.out; omega), if_neg (by rw [HMO.out]; decide), m.odd_form]
    by_cases h1 : m.form = false ∨ m.bareK ≠ bareM m.kind 0
    · rw [if_pos h1]
      rcases h1 with h | h
      · rw [h]; rfl
      · rw [decide_eq_false h, Bool.and_false]; rfl
    · have h2 : m.form = true := by cases h : m.form with
        | true => rfl
        | false => exact absurd (.inl h) h1
      have h3 : m.bareK = bareM m.kind 0 := Classical.byContradiction fun h => h1 (.inr h)
      rw [if_neg h1, h2, decide_eq_true h3]
      rfl
  cases hodd : m.oddB
  case true =>
    rw [hodd, if_pos rfl] at EE
    have e2 : m.encL = [] := by unfold Mg.encL; rw [EE.out]; rfl
    have E2 := hide e2
    rw [hodd] at HOD
    clear e2 hodd
    go_wp2_with (first | (go_at_call 25; with_reducible refine (HOD.out _ Y3.out).mono ?_; rintro e W4 ⟨rfl, be⟩; have C4 := hide (below_next C3.out be); clear be) | (with_reducible refine at_list ?_; refine wpList_loadS AMr _ rfl w.heap.size rfl (m.cells s).toArray HZ.out 50 R3.out rfl ?_))
    go_ret2
    exact ⟨by rw [EE.out, E2.out]; rfl, C4.out⟩
  rw [hodd, if_neg (by decide)] at EE
  have hform : m.form = true := by
    have := m.odd_form
    rw [hodd] at this
    cases h : m.form with
    | true => rfl
    | false => rw [h] at this; simp at this
  rw [hodd] at HOD
  have HPY : Hid (∀ W, MR W s m → Calls Tryz.prog 26 #[.agg (m.cells s).toArray] W fun e w' => e = .returned (.string (txt m.pay)) ∧ Below W.heap.size W w') := fun W h => rpay_any m s W HKK.out h HMO.out hform
  have SZ : Hid ((txt m.pay).size = m.pay.length) := txt_sz _
  clear hodd hform
  by_cases hl : 16384 < m.pay.length
  · rw [if_pos hl] at EE
    have e2 : m.encL = [] := by unfold Mg.encL; rw [EE.out]; rfl
    have E2 : Hid (txt m.encL = txt []) := by show _ = _; rw [e2]
    have h3 : ((txt m.pay).size : Int) > 16384 := by have := SZ.out; omega
    generalize txt m.pay = tp at *
    clear e2 hl
    go_wp2_with (first | (go_at_call 25; with_reducible refine (HOD.out _ Y3.out).mono ?_; rintro e W4 ⟨rfl, be⟩; have C4 := hide (below_next C3.out be); have Y4 := hide (Y3.out.below be); have R4 := hide ((be.block _ (lt_heap R3.out)).trans R3.out); clear be) | (go_at_call 26; with_reducible refine (HPY.out _ Y4.out).mono ?_; rintro e W5 ⟨rfl, be⟩; have C5 := hide (below_next C4.out be); clear be) | (with_reducible refine at_list ?_; first | refine wpList_loadS AMr _ rfl w.heap.size rfl (m.cells s).toArray HZ.out 50 R4.out rfl ?_ | refine wpList_loadS AMr _ rfl w.heap.size rfl (m.cells s).toArray HZ.out 50 R3.out rfl ?_))
    go_ret2
    exact ⟨by rw [EE.out, E2.out]; rfl, C5.out⟩
  · rw [if_neg hl] at EE
    have e2 : m.encL = m.pay := by unfold Mg.encL; rw [EE.out]; rfl
    have E2 : Hid (txt m.encL = txt m.pay) := by show _ = _; rw [e2]
    have h3 : ¬ ((txt m.pay).size : Int) > 16384 := by have := SZ.out; omega
    generalize txt m.pay = tp at *
    clear e2 hl
    go_wp2_with (first | (go_at_call 25; with_reducible refine (HOD.out _ Y3.out).mono ?_; rintro e W4 ⟨rfl, be⟩; have C4 := hide (below_next C3.out be); have Y4 := hide (Y3.out.below be); have R4 := hide ((be.block _ (lt_heap R3.out)).trans R3.out); clear be) | (go_at_call 26; with_reducible refine (HPY.out _ Y4.out).mono ?_; rintro e W5 ⟨rfl, be⟩; have C5 := hide (below_next C4.out be); clear be) | (with_reducible refine at_list ?_; first | refine wpList_loadS AMr _ rfl w.heap.size rfl (m.cells s).toArray HZ.out 50 R4.out rfl ?_ | refine wpList_loadS AMr _ rfl w.heap.size rfl (m.cells s).toArray HZ.out 50 R3.out rfl ?_))
    go_ret2
    exact ⟨by rw [EE.out, E2.out]; rfl, C5.out⟩
end
end Go.Proofs.YtkoidjaaojmcnaaGreat
