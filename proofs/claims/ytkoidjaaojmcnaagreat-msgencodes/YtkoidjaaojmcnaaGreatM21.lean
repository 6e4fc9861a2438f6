/- Messages as bytes: Encode. -/
import Derived.Test.YtkoidjaaojmcnaaGreatM18
import Derived.Test.YtkoidjaaojmcnaaGreatM20
namespace Go.Proofs.YtkoidjaaojmcnaaGreat
open Go.RowKit
open Go.Deep
/-- A message's payload. -/
def Mg.pay (m : Mg) : List UInt8 :=
  if m.kind = 1 then m.payV
  else if m.kind = 5 ∨ m.kind = 6 then lowL m.nonce.toNat 8
  else if m.kind = 7 then countL m.addrs.length ++ m.addrs.flatMap Nt.full
  else if m.kind = 8 ∨ m.kind = 9 ∨ m.kind = 10 then countL m.items.length ++ m.items.flatMap Im.bytes
  else if m.kind = 11 then lowL m.vers.toNat 4 ++ (countL m.hashes.length ++ m.hashes.flatMap (fun x : Id32 => x.1) ++ m.stop.1)
  else if m.kind = 12 then countL m.heads.length ++ m.heads.flatMap (fun x : ByteArray => x.data.toList ++ [0])
  else if m.kind = 13 ∨ m.kind = 14 then m.raw.data.toList
  else if m.kind = 15 then flagL m.high ++ lowL m.nonce.toNat 8
  else if m.kind = 16 then m.payC
  else if m.kind = 17 then m.hash.1 ++ (countL m.places.length ++ gapsL (-1) m.places)
  else if m.kind = 18 then m.hash.1 ++ (countL m.raws.length ++ m.raws.flatMap rawL)
  else []
/-- What is known of a message that may stand in bytes. -/
theorem Mg.more16 {m : Mg} (h : m.kind = 16) (hm : m.more = false) : m.shorts.length ≤ 500 ∧ m.filled.length ≤ 500 ∧ ∀ x ∈ m.filled, x.raw.size ≤ 4096 := by
  unfold Mg.more at hm
  rw [if_neg (by omega), if_neg (by omega), if_neg (by omega), if_neg (by omega), if_neg (by omega), if_pos h] at hm
  simp only [Bool.or_eq_false_iff, decide_eq_false_iff_not, List.any_eq_false, decide_eq_true_eq] at hm
  exact ⟨by omega, by omega, fun x hx => by have := hm.2 x hx; omega⟩
theorem Mg.more18 {m : Mg} (h : m.kind = 18) (hm : m.more = false) : m.raws.length ≤ 500 ∧ ∀ x ∈ m.raws, x.size ≤ 4096 := by
  unfold Mg.more at hm
  rw [if_neg (by omega), if_neg (by omega), if_neg (by omega), if_neg (by omega), if_neg (by omega), if_neg (by omega), if_neg (by omega), if_pos h] at hm
  simp only [Bool.or_eq_false_iff, decide_eq_false_iff_not, List.any_eq_false, decide_eq_true_eq] at hm
  exact ⟨by omega, fun x hx => by have := hm.2 x hx; omega⟩
theorem Mg.more_d {m : Mg} (hm : m.more = false) : (m.kind = 1 → m.agent.size ≤ 64) ∧ (m.kind = 7 → m.addrs.length ≤ 100) ∧ (m.kind = 8 ∨ m.kind = 9 ∨ m.kind = 10 → m.items.length ≤ 500) ∧ (m.kind = 11 → m.hashes.length ≤ 64) ∧ (m.kind = 12 → m.heads.length ≤ 100) ∧ (m.kind = 17 → m.places.length ≤ 500) := by
  refine ⟨fun h => ?_, fun h => ?_, fun h => ?_, fun h => ?_, fun h => ?_, fun h => ?_⟩ <;> unfold Mg.more at hm
  · rw [if_pos h] at hm; simp only [decide_eq_false_iff_not] at hm; omega
  · rw [if_neg (by omega), if_pos h] at hm; simp only [decide_eq_false_iff_not] at hm; omega
  · rw [if_neg (by omega), if_neg (by omega), if_pos h] at hm; simp only [decide_eq_false_iff_not] at hm; omega
  · rw [if_neg (by omega), if_neg (by omega), if_neg (by omega), if_pos h] at hm; simp only [decide_eq_false_iff_not] at hm; omega
  · rw [if_neg (by omega), if_neg (by omega), if_neg (by omega), if_neg (by omega), if_pos h] at hm; simp only [decide_eq_false_iff_not] at hm; omega
  · rw [if_neg (by omega), if_neg (by omega), if_neg (by omega), if_neg (by omega), if_neg (by omega), if_neg (by omega), if_pos h] at hm; simp only [decide_eq_false_iff_not] at hm; omega
theorem Mg.form_d {m : Mg} (hm : m.form = true) : (m.kind = 12 → ∀ x ∈ m.heads, x.size = 80) ∧ (m.kind = 16 → m.head.size = 80 ∧ (∀ x ∈ m.shorts, x.toNat ≤ 281474976710655) ∧ riseP (-1) (m.filled.map Fd.place)) ∧ (m.kind = 17 → riseP (-1) m.places) := by
  refine ⟨fun h => ?_, fun h => ?_, fun h => ?_⟩ <;> unfold Mg.form at hm
  · rw [if_pos h] at hm
    simp only [Bool.not_eq_true', List.any_eq_false, decide_eq_true_eq, ne_eq, Decidable.not_not] at hm
    exact hm
  · rw [if_neg (by omega), if_pos h] at hm
    simp only [Bool.and_eq_true, Bool.not_eq_true', List.any_eq_false, decide_eq_true_eq, riseB_iff] at hm
    exact ⟨hm.1.1, fun x hx => by have := hm.1.2 x hx; omega, hm.2⟩
  · rw [if_neg (by omega), if_neg (by omega), if_pos h, riseB_iff] at hm
    exact hm
theorem put_any (m : Mg) (s : Vs) {B w : World} {b : Nat} (h : Wb B w b []) (hML : ML B s m) (hm : m.more = false) (hf : m.form = true) (hr : m.raw.size ≤ 140737488351232) (hk : 1 ≤ m.kind ∧ m.kind ≤ 18) : Calls Tryz.prog 19 #[pb b, .agg (m.cells s).toArray] w fun e w' => e = .returned (.tuple #[]) ∧ Wb B w' b m.pay := by
  obtain ⟨d1, d7, d8, d11, d12, d17⟩ := Mg.more_d hm
  obtain ⟨f12, f16, f17⟩ := Mg.form_d hf
  by_cases h1 : m.kind = 1
  · rw [show m.pay = m.payV by unfold Mg.pay; rw [if_pos (by omega)]]; exact put_n1 m s h1 h (d1 h1)
  by_cases h2 : m.kind = 2
  · rw [show m.pay = [] by unfold Mg.pay; rw [if_neg (by omega), if_neg (by omega), if_neg (by omega), if_neg (by omega), if_neg (by omega), if_neg (by omega), if_neg (by omega), if_neg (by omega), if_neg (by omega), if_neg (by omega), if_neg (by omega)]]; exact put_n2 m s h2 h
  by_cases h3 : m.kind = 3
  · rw [show m.pay = [] by unfold Mg.pay; rw [if_neg (by omega), if_neg (by omega), if_neg (by omega), if_neg (by omega), if_neg (by omega), if_neg (by omega), if_neg (by omega), if_neg (by omega), if_neg (by omega), if_neg (by omega), if_neg (by omega)]]; exact put_n3 m s h3 h
  by_cases h4 : m.kind = 4
  · rw [show m.pay = [] by unfold Mg.pay; rw [if_neg (by omega), if_neg (by omega), if_neg (by omega), if_neg (by omega), if_neg (by omega), if_neg (by omega), if_neg (by omega), if_neg (by omega), if_neg (by omega), if_neg (by omega), if_neg (by omega)]]; exact put_n4 m s h4 h
  by_cases h5 : m.kind = 5
  · rw [show m.pay = lowL m.nonce.toNat 8 by unfold Mg.pay; rw [if_neg (by omega), if_pos (by omega)]]; exact put_n5 m s h5 h
  by_cases h6 : m.kind = 6
  · rw [show m.pay = lowL m.nonce.toNat 8 by unfold Mg.pay; rw [if_neg (by omega), if_pos (by omega)]]; exact put_n6 m s h6 h
  by_cases h7 : m.kind = 7
  · rw [show m.pay = countL m.addrs.length ++ m.addrs.flatMap Nt.full by unfold Mg.pay; rw [if_neg (by omega), if_neg (by omega), if_pos (by omega)]]; exact put_n7 m s h7 h hML (d7 h7)
  by_cases h8 : m.kind = 8
  · rw [show m.pay = countL m.items.length ++ m.items.flatMap Im.bytes by unfold Mg.pay; rw [if_neg (by omega), if_neg (by omega), if_neg (by omega), if_pos (by omega)]]; exact put_n8 m s h8 h hML (d8 (by omega))
  by_cases h9 : m.kind = 9
  · rw [show m.pay = countL m.items.length ++ m.items.flatMap Im.bytes by unfold Mg.pay; rw [if_neg (by omega), if_neg (by omega), if_neg (by omega), if_pos (by omega)]]; exact put_n9 m s h9 h hML (d8 (by omega))
  by_cases h10 : m.kind = 10
  · rw [show m.pay = countL m.items.length ++ m.items.flatMap Im.bytes by unfold Mg.pay; rw [if_neg (by omega), if_neg (by omega), if_neg (by omega), if_pos (by omega)]]; exact put_n10 m s h10 h hML (d8 (by omega))
  by_cases h11 : m.kind = 11
  · rw [show m.pay = lowL m.vers.toNat 4 ++ (countL m.hashes.length ++ m.hashes.flatMap (fun x : Id32 => x.1) ++ m.stop.1) by unfold Mg.pay; rw [if_neg (by omega), if_neg (by omega), if_neg (by omega), if_neg (by omega), if_pos (by omega)]]; exact put_n11 m s h11 h hML (d11 h11)
  by_cases h12 : m.kind = 12
  · rw [show m.pay = countL m.heads.length ++ m.heads.flatMap (fun x : ByteArray => x.data.toList ++ [0]) by unfold Mg.pay; rw [if_neg (by omega), if_neg (by omega), if_neg (by omega), if_neg (by omega), if_neg (by omega), if_pos (by omega)]]; exact put_n12 m s h12 h hML (d12 h12) (fun x hx => by have := f12 h12 x hx; omega)
  by_cases h13 : m.kind = 13
  · rw [show m.pay = m.raw.data.toList by unfold Mg.pay; rw [if_neg (by omega), if_neg (by omega), if_neg (by omega), if_neg (by omega), if_neg (by omega), if_neg (by omega), if_pos (by omega)]]; exact put_n13 m s h13 h hr
  by_cases h14 : m.kind = 14
  · rw [show m.pay = m.raw.data.toList by unfold Mg.pay; rw [if_neg (by omega), if_neg (by omega), if_neg (by omega), if_neg (by omega), if_neg (by omega), if_neg (by omega), if_pos (by omega)]]; exact put_n14 m s h14 h hr
  by_cases h15 : m.kind = 15
  · rw [show m.pay = flagL m.high ++ lowL m.nonce.toNat 8 by unfold Mg.pay; rw [if_neg (by omega), if_neg (by omega), if_neg (by omega), if_neg (by omega), if_neg (by omega), if_neg (by omega), if_neg (by omega), if_pos (by omega)]]; exact put_n15 m s h15 h
  by_cases h16 : m.kind = 16
  · rw [show m.pay = m.payC by unfold Mg.pay; rw [if_neg (by omega), if_neg (by omega), if_neg (by omega), if_neg (by omega), if_neg (by omega), if_neg (by omega), if_neg (by omega), if_neg (by omega), if_pos (by omega)]]; exact put_n16 m s h16 h hML (by have := (f16 h16).1; omega) (Mg.more16 h16 hm).1 (Mg.more16 h16 hm).2.1 (f16 h16).2.2 (Mg.more16 h16 hm).2.2
  by_cases h17 : m.kind = 17
  · rw [show m.pay = m.hash.1 ++ (countL m.places.length ++ gapsL (-1) m.places) by unfold Mg.pay; rw [if_neg (by omega), if_neg (by omega), if_neg (by omega), if_neg (by omega), if_neg (by omega), if_neg (by omega), if_neg (by omega), if_neg (by omega), if_neg (by omega), if_pos (by omega)]]; exact put_n17 m s h17 h hML (d17 h17) (f17 h17)
  by_cases h18 : m.kind = 18
  · rw [show m.pay = m.hash.1 ++ (countL m.raws.length ++ m.raws.flatMap rawL) by unfold Mg.pay; rw [if_neg (by omega), if_neg (by omega), if_neg (by omega), if_neg (by omega), if_neg (by omega), if_neg (by omega), if_neg (by omega), if_neg (by omega), if_neg (by omega), if_neg (by omega), if_pos (by omega)]]; exact put_n18 m s h18 h hML (Mg.more18 h18 hm).1 (Mg.more18 h18 hm).2
  omega
/-- What Encode answers. -/
def Mg.encE (m : Mg) : Int := if ¬ (1 ≤ m.kind ∧ m.kind ≤ 18) then 90 else if m.more = true then 5 else if m.form = false ∨ m.bareK ≠ bareM m.kind 0 then 1 else if 16384 < m.pay.length then 110 else 0
def Mg.encL (m : Mg) : List UInt8 := if m.encE = 0 then m.pay else []
theorem cmd_none (k : Int) (h : ¬ (1 ≤ k ∧ k ≤ 18)) : (cmd k).toList.isEmpty = true := by rw [cmd_out k h]; decide +kernel
theorem cmdN_some : ∀ n : Fin 18, (cmdN (n.1 + 1)).toList.isEmpty = false := by decide +kernel
theorem cmd_some (k : Int) (h : 1 ≤ k ∧ k ≤ 18) : (cmd k).toList.isEmpty = false := by
  obtain ⟨n, rfl⟩ := Int.eq_ofNat_of_zero_le (show 0 ≤ k by omega)
  rw [cmd_in n (by omega) (by omega)]
  have := cmdN_some ⟨n - 1, by omega⟩
  rwa [show (n - 1) + 1 = n by omega] at this
theorem Mg.bareK_fit {m : Mg} (h : m.fit) : m.bareK.fit := by
  have z : (0 : Nat) < 4611686018427387904 := by decide
  unfold Mg.bareK
  by_cases h0 : m.kind = 1
  · rw [if_pos h0]
    exact ⟨h.a, h.i, h.h, h.hd, h.sh, h.f, h.p, h.r⟩
  rw [if_neg h0]
  by_cases h1 : m.kind = 5 ∨ m.kind = 6
  · rw [if_pos h1]
    exact ⟨h.a, h.i, h.h, h.hd, h.sh, h.f, h.p, h.r⟩
  rw [if_neg h1]
  by_cases h2 : m.kind = 7
  · rw [if_pos h2]
    exact ⟨z, h.i, h.h, h.hd, h.sh, h.f, h.p, h.r⟩
  rw [if_neg h2]
  by_cases h3 : m.kind = 8 ∨ m.kind = 9 ∨ m.kind = 10
  · rw [if_pos h3]
    exact ⟨h.a, z, h.h, h.hd, h.sh, h.f, h.p, h.r⟩
  rw [if_neg h3]
  by_cases h4 : m.kind = 11
  · rw [if_pos h4]
    exact ⟨h.a, h.i, z, h.hd, h.sh, h.f, h.p, h.r⟩
  rw [if_neg h4]
  by_cases h5 : m.kind = 12
  · rw [if_pos h5]
    exact ⟨h.a, h.i, h.h, z, h.sh, h.f, h.p, h.r⟩
  rw [if_neg h5]
  by_cases h6 : m.kind = 13 ∨ m.kind = 14
  · rw [if_pos h6]
    exact ⟨h.a, h.i, h.h, h.hd, h.sh, h.f, h.p, h.r⟩
  rw [if_neg h6]
  by_cases h7 : m.kind = 15
  · rw [if_pos h7]
    exact ⟨h.a, h.i, h.h, h.hd, h.sh, h.f, h.p, h.r⟩
  rw [if_neg h7]
  by_cases h8 : m.kind = 16
  · rw [if_pos h8]
    exact ⟨h.a, h.i, h.h, h.hd, z, z, h.p, h.r⟩
  rw [if_neg h8]
  by_cases h9 : m.kind = 17
  · rw [if_pos h9]
    exact ⟨h.a, h.i, h.h, h.hd, h.sh, h.f, z, h.r⟩
  rw [if_neg h9]
  by_cases h10 : m.kind = 18
  · rw [if_pos h10]
    exact ⟨h.a, h.i, h.h, h.hd, h.sh, h.f, h.p, z⟩
  rw [if_neg h10]
  exact h
section
set_option maxRecDepth 10000
set_option maxHeartbeats 4000000
theorem encode_any (m : Mg) (s : Vs) (w : World) (hML : ML w s m) (hfit : m.fit) (hr : m.raw.size ≤ 140737488351232) : Calls Tryz.prog 4 #[.agg (m.cells s).toArray] w fun e w' => e = .returned (.tuple #[.string (txt m.encL), .int .i64 m.encE]) ∧ Below w.heap.size w w' := by
  have r1 := heap_alloc_last w (.cells (m.cells s).toArray 38)
  have b1 : Below w.heap.size w (w.alloc (.cells (m.cells s).toArray 38)) := (Below.refl w.heap.size w).alloc (Nat.le_refl _) _
  have B1 := hide b1
  have c0 := (Mc.of (m := m) (s := s) r1).f0
  have R1 := hide r1
  have HZ := hide (m.size s)
  have HC := hide (command_any m.kind (w.alloc (.cells (m.cells s).toArray 38)))
  have HX := hide (hML.below b1)
  have HM := hide (hasMore_any m s (w.alloc (.cells (m.cells s).toArray 38)) (hML.below b1) hfit)
  by_cases hk : 1 ≤ m.kind ∧ m.kind ≤ 18
  case neg =>
    have e1 : m.encE = 90 := by unfold Mg.encE; rw [if_pos hk]
    have e2 : m.encL = [] := by unfold Mg.encL; rw [e1]; rfl
    rw [e1, e2]
    have hp := cmd_none m.kind hk
    generalize cmd m.kind = cm at *
    clear r1 b1 hML hfit hr hk e1 e2 HX HM
    go_enter Tryz.func4, Tryz.ntmps4
    go_wp2_with (first | (go_at_call 13; with_reducible refine HC.out.mono ?_; rintro e w1 ⟨rfl, rfl⟩) | (with_reducible refine at_list ?_; refine wpList_boxA rfl _ rfl (m.cells s).toArray rfl ?_))
    go_ret2
    exact ⟨rfl, B1.out⟩
  have hp := cmd_some m.kind hk
  generalize cmd m.kind = cm at *
  cases hmore : m.more
  case true =>
    have e1 : m.encE = 5 := by unfold Mg.encE; rw [if_neg (by omega), if_pos hmore]
    have e2 : m.encL = [] := by unfold Mg.encL; rw [e1]; rfl
    rw [e1, e2]
    rw [hmore] at HM
    clear r1 b1 hML hfit hr hk e1 e2 HX hmore
    go_enter Tryz.func4, Tryz.ntmps4
    go_wp2_with (first | (go_at_call 13; with_reducible refine HC.out.mono ?_; rintro e w1 ⟨rfl, rfl⟩) | (go_at_call 14; with_reducible refine HM.out.mono ?_; rintro e W0 ⟨rfl, be⟩; have B0 := hide (below_next B1.out be); clear be) | (with_reducible refine at_list ?_; first | refine wpList_boxA rfl _ rfl (m.cells s).toArray rfl ?_ | refine wpList_loadS AM _ rfl w.heap.size rfl (m.cells s).toArray HZ.out 38 R1.out rfl ?_))
    go_ret2
    exact ⟨rfl, B0.out⟩
  rw [hmore] at HM
  have HMO := hide hmore
  have HKK := hide hk
  have HFI := hide hfit
  have HRR := hide hr
  have EE : Hid (m.encE = if m.form = false ∨ m.bareK ≠ bareM m.kind 0 then 1 else if 16384 < m.pay.length then 110 else 0) := by
    show _ = _
    unfold Mg.encE
    rw [if_neg (by omega), if_neg (by rw [hmore]; decide)]
  clear r1 b1 hML hfit hr hk hmore
  go_enter Tryz.func4, Tryz.ntmps4
  go_upto_region 5 with (first | (go_at_call 13; with_reducible refine HC.out.mono ?_; rintro e w1 ⟨rfl, rfl⟩) | (go_at_call 14; with_reducible refine HM.out.mono ?_; rintro e W0 ⟨rfl, be⟩; have B0 := hide (below_next B1.out be); have R0 := hide ((be.block _ (lt_heap R1.out)).trans R1.out); have X0 := hide (HX.out.below be); clear be) | (with_reducible refine at_list ?_; first | refine wpList_boxA rfl _ rfl (m.cells s).toArray rfl ?_ | refine wpList_loadS AM _ rfl w.heap.size rfl (m.cells s).toArray HZ.out 38 R1.out rfl ?_))
  clear HC hp c0 B1 R1 HM HX
  have LD : Hid (∀ W, Below W0.heap.size W0 W → W.heap[w.heap.size]? = some (.cells (m.cells s).toArray 38 (0, 0))) := fun W b => (b.block _ (lt_heap R0.out)).trans R0.out
  have C0 : Hid (∀ W, Below W0.heap.size W0 W → W.cell? ⟨w.heap.size, 0, none⟩ = some (.int .i64 m.kind)) := fun W b => (Mc.of (LD.out W b)).f0
  have HF : Hid (∀ W, Below W0.heap.size W0 W → Calls Tryz.prog 15 #[.agg (m.cells s).toArray] W fun e w' => e = .returned (.bool m.form) ∧ Below W.heap.size W w') := fun W b => wellFormed_any m s W (X0.out.below b) HFI.out HMO.out
  have HU : Hid (∀ W, Calls Tryz.prog 16 #[.agg (m.cells s).toArray] W fun e w' => ∃ s', e = .returned (.agg (m.bareK.cells s').toArray) ∧ s'.ok ∧ (∀ W, ML W s m → ML W s' m.bareK) ∧ Below W.heap.size W w') := fun W => unnamed_any m s W X0.out.ok
  have HB := hide (fun W => bare_any m.kind W)
  have HS : Hid (∀ W s', ML W s' m.bareK → Calls Tryz.prog 10 #[.agg (m.bareK.cells s').toArray, .agg ((bareM m.kind 0).cells nil8).toArray] W fun e w' => e = .returned (.bool (decide (m.bareK = bareM m.kind 0))) ∧ Below W.heap.size W w') := fun W s' h => same_any _ _ s' nil8 W h (bare_ML m.kind 0 W) (Mg.bareK_fit HFI.out)
  have BD := hide ((Below.refl W0.heap.size W0).drew)
  refine wp_region_held_drew (S := fun W => Below W0.heap.size W0 W) (by kernel_rfl) BD.out (fun hH => ?_)
  generalize hWd : W0.drew = W1 at *
  clear hWd
  refine wpAnyH_take (i := 0) (v := (.agg (m.cells s).toArray)) rfl (by kernel_rfl) (by kernel_rfl) (by kernel_rfl) (fun _ _ _ h => h) (yl_load (by rfl) _ (by rfl) _ (m.cells s).toArray (by rfl) (fun W hS => ld_row AM HZ.out (LD.out W hS))) hH ?_
  change wpAnyH _ _ _ _ _ _ _ (Act.put _ (some 11) _) _
  simp only [Act.put, List.setIfInBounds_toArray, List.set_cons_zero, List.set_cons_succ]
  refine wpAnyH_ready (rs := [1]) (by kernel_rfl) (by simp) (AllReadyH.cons rfl (fun K1 hK1 => ?_) AllReadyH.nil)
  go_simp
  with_reducible refine (HF.out W1 BD.out).mono ?_
  rintro e W2 ⟨rfl, be⟩
  have B2 := hide (below_next BD.out be)
  clear be
  refine hK1.out _ _ B2.out (fun hH => ?_)
  clear hK1
  cases hform : m.form
  case false =>
    refine wpAnyH_take (i := 2) (v := (.bool true)) rfl (by kernel_rfl) (by kernel_rfl) (by kernel_rfl) (fun _ _ _ h => h) (.inl ⟨by rfl, fun W _ => by go_simp⟩) hH ?_
    change wpAnyH _ _ _ _ _ _ _ (Act.put _ (some 13) _) _
    simp only [Act.put, List.setIfInBounds_toArray, List.set_cons_zero, List.set_cons_succ]
    refine wpAnyH_take (i := 3) (v := (.bool true)) rfl (by kernel_rfl) (by kernel_rfl) (by kernel_rfl) (fun _ _ _ h => h) (yl_move (by rfl) _ (by rfl) _ (by rfl)) hH ?_
    change wpAnyH _ _ _ _ _ _ _ (Act.put _ (some 14) _) _
    simp only [Act.put, List.setIfInBounds_toArray, List.set_cons_zero, List.set_cons_succ]
    refine wpAnyH_take (i := 4) (v := undef) rfl (by kernel_rfl) (by kernel_rfl) (by kernel_rfl) (fun _ _ _ h => h) (.inr ⟨by rfl, rfl⟩) hH ?_
    change wpAnyH _ _ _ _ _ _ _ (Act.put _ (some 15) _) _
    simp only [Act.put, List.setIfInBounds_toArray, List.set_cons_zero, List.set_cons_succ]
    refine wpAnyH_take (i := 5) (v := undef) rfl (by kernel_rfl) (by kernel_rfl) (by kernel_rfl) (fun _ _ _ h => h) (.inr ⟨by rfl, rfl⟩) hH ?_
    change wpAnyH _ _ _ _ _ _ _ (Act.put _ (some 16) _) _
    simp only [Act.put, List.setIfInBounds_toArray, List.set_cons_zero, List.set_cons_succ]
    refine wpAnyH_take (i := 6) (v := undef) rfl (by kernel_rfl) (by kernel_rfl) (by kernel_rfl) (fun _ _ _ h => h) (.inr ⟨by rfl, rfl⟩) hH ?_
    change wpAnyH _ _ _ _ _ _ _ (Act.put _ (some 17) _) _
    simp only [Act.put, List.setIfInBounds_toArray, List.set_cons_zero, List.set_cons_succ]
    refine wpAnyH_take (i := 7) (v := undef) rfl (by kernel_rfl) (by kernel_rfl) (by kernel_rfl) (fun _ _ _ h => h) (.inr ⟨by rfl, rfl⟩) hH ?_
    change wpAnyH _ _ _ _ _ _ _ (Act.put _ (some 18) _) _
    simp only [Act.put, List.setIfInBounds_toArray, List.set_cons_zero, List.set_cons_succ]
    refine wpAnyH_take (i := 8) (v := undef) rfl (by kernel_rfl) (by kernel_rfl) (by kernel_rfl) (fun _ _ _ h => h) (.inr ⟨by rfl, rfl⟩) hH ?_
    change wpAnyH _ _ _ _ _ _ _ (Act.put _ (some 19) _) _
    simp only [Act.put, List.setIfInBounds_toArray, List.set_cons_zero, List.set_cons_succ]
    refine wpAnyH_take (i := 9) (v := undef) rfl (by kernel_rfl) (by kernel_rfl) (by kernel_rfl) (fun _ _ _ h => h) (.inr ⟨by rfl, rfl⟩) hH ?_
    change wpAnyH _ _ _ _ _ _ _ (Act.put _ (some 20) _) _
    simp only [Act.put, List.setIfInBounds_toArray, List.set_cons_zero, List.set_cons_succ]
    refine wpAnyH_take (i := 10) (v := undef) rfl (by kernel_rfl) (by kernel_rfl) (by kernel_rfl) (fun _ _ _ h => h) (.inr ⟨by rfl, rfl⟩) hH ?_
    change wpAnyH _ _ _ _ _ _ _ (Act.put _ (some 21) _) _
    simp only [Act.put, List.setIfInBounds_toArray, List.set_cons_zero, List.set_cons_succ]
    refine wpAnyH_take (i := 11) (v := (.bool true)) rfl (by kernel_rfl) (by kernel_rfl) (by kernel_rfl) (fun _ _ _ h => h) (.inl ⟨by rfl, fun W _ => by go_simp⟩) hH ?_
    change wpAnyH _ _ _ _ _ _ _ (Act.put _ (some 22) _) _
    simp only [Act.put, List.setIfInBounds_toArray, List.set_cons_zero, List.set_cons_succ]
    refine wpAnyH_done (by kernel_rfl) ?_ _
    rw [if_pos (.inl hform)] at EE
    have e2 : m.encL = [] := by unfold Mg.encL; rw [EE.out]; rfl
    have E2 := hide e2
    clear hH HF HU HB HS LD C0 e2 hform
    go_wp2
    go_ret2
    exact ⟨by rw [EE.out, E2.out]; rfl, below_next B0.out B2.out⟩
  refine wpAnyH_take (i := 2) (v := (.bool false)) rfl (by kernel_rfl) (by kernel_rfl) (by kernel_rfl) (fun _ _ _ h => h) (.inl ⟨by rfl, fun W _ => by go_simp⟩) hH ?_
  change wpAnyH _ _ _ _ _ _ _ (Act.put _ (some 13) _) _
  simp only [Act.put, List.setIfInBounds_toArray, List.set_cons_zero, List.set_cons_succ]
  refine wpAnyH_take (i := 3) (v := (.bool false)) rfl (by kernel_rfl) (by kernel_rfl) (by kernel_rfl) (fun _ _ _ h => h) (yl_move (by rfl) _ (by rfl) _ (by rfl)) hH ?_
  change wpAnyH _ _ _ _ _ _ _ (Act.put _ (some 14) _) _
  simp only [Act.put, List.setIfInBounds_toArray, List.set_cons_zero, List.set_cons_succ]
  refine wpAnyH_take (i := 4) (v := (.agg (m.cells s).toArray)) rfl (by kernel_rfl) (by kernel_rfl) (by kernel_rfl) (fun _ _ _ h => h) (yl_load (by rfl) _ (by rfl) _ (m.cells s).toArray (by rfl) (fun W hS => ld_row AM HZ.out (LD.out W hS))) hH ?_
  change wpAnyH _ _ _ _ _ _ _ (Act.put _ (some 15) _) _
  simp only [Act.put, List.setIfInBounds_toArray, List.set_cons_zero, List.set_cons_succ]
  refine wpAnyH_take (i := 6) (v := (.pointer (some ⟨w.heap.size, 0, none⟩))) rfl (by kernel_rfl) (by kernel_rfl) (by kernel_rfl) (fun _ _ _ h => h) (.inl ⟨by rfl, fun W _ => by go_simp⟩) hH ?_
  change wpAnyH _ _ _ _ _ _ _ (Act.put _ (some 17) _) _
  simp only [Act.put, List.setIfInBounds_toArray, List.set_cons_zero, List.set_cons_succ]
  refine wpAnyH_take (i := 7) (v := (.int .i64 m.kind)) rfl (by kernel_rfl) (by kernel_rfl) (by kernel_rfl) (fun _ _ _ h => h) (.inl ⟨by rfl, fun W hS => by have c4 := C0.out W hS; go_simp⟩) hH ?_
  change wpAnyH _ _ _ _ _ _ _ (Act.put _ (some 18) _) _
  simp only [Act.put, List.setIfInBounds_toArray, List.set_cons_zero, List.set_cons_succ]
  refine wpAnyH_ready (rs := [5]) (by kernel_rfl) (by simp) (AllReadyH.cons rfl (fun K1 hK1 => ?_) AllReadyH.nil)
  go_simp
  with_reducible refine (HU.out W2).mono ?_
  rintro e W3 ⟨s', rfl, sok, sml, be⟩
  have B3 := hide (below_next B2.out be)
  have SM := hide sml; clear sok sml
  clear be
  refine hK1.out _ _ B3.out (fun hH => ?_)
  clear hK1
  refine wpAnyH_ready (rs := [8]) (by kernel_rfl) (by simp) (AllReadyH.cons rfl (fun K1 hK1 => ?_) AllReadyH.nil)
  go_simp
  with_reducible refine (HB.out W3).mono ?_
  rintro e W4 ⟨rfl, be⟩
  have B4 := hide (below_next B3.out be)
  clear be
  refine hK1.out _ _ B4.out (fun hH => ?_)
  clear hK1
  refine wpAnyH_ready (rs := [9]) (by kernel_rfl) (by simp) (AllReadyH.cons rfl (fun K1 hK1 => ?_) AllReadyH.nil)
  go_simp
  with_reducible refine (HS.out W4 s' (SM.out _ (X0.out.below B4.out))).mono ?_
  rintro e W5 ⟨rfl, be⟩
  have B5 := hide (below_next B4.out be)
  clear be
  refine hK1.out _ _ B5.out (fun hH => ?_)
  clear hK1
  have hsame : Hid (decide (m.bareK = bareM m.kind 0) = true ↔ m.bareK = bareM m.kind 0) := by show _ ↔ _; simp
  generalize hq : decide (m.bareK = bareM m.kind 0) = q at *
  refine wpAnyH_take (i := 10) (v := (.bool (!q))) rfl (by kernel_rfl) (by kernel_rfl) (by kernel_rfl) (fun _ _ _ h => h) (.inl ⟨by rfl, fun W _ => by go_simp⟩) hH ?_
  change wpAnyH _ _ _ _ _ _ _ (Act.put _ (some 21) _) _
  simp only [Act.put, List.setIfInBounds_toArray, List.set_cons_zero, List.set_cons_succ]
  refine wpAnyH_take (i := 11) (v := (.bool (!q))) rfl (by kernel_rfl) (by kernel_rfl) (by kernel_rfl) (fun _ _ _ h => h) (.inl ⟨by rfl, fun W _ => by go_simp⟩) hH ?_
  change wpAnyH _ _ _ _ _ _ _ (Act.put _ (some 22) _) _
  simp only [Act.put, List.setIfInBounds_toArray, List.set_cons_zero, List.set_cons_succ]
  refine wpAnyH_done (by kernel_rfl) ?_ _
  clear hH HF HU HB HS C0 BD B2 B3 B4
  have R5 := hide (LD.out W5 B5.out)
  have Z5 := hide (below_next B0.out B5.out)
  have X5 := hide (X0.out.below B5.out)
  clear LD B5 B0 R0 X0
  cases q
  · have hne : m.bareK ≠ bareM m.kind 0 := fun h => by have := hsame.out.2 h; cases this
    rw [if_pos (.inr hne)] at EE
    have e2 : m.encL = [] := by unfold Mg.encL; rw [EE.out]; rfl
    have E2 := hide e2
    clear hne hq hsame e2 hform
    go_wp2
    go_ret2
    exact ⟨by rw [EE.out, E2.out]; rfl, Z5.out⟩
  · have he : m.bareK = bareM m.kind 0 := hsame.out.1 rfl
    rw [if_neg (by rw [hform, he]; simp)] at EE
    have HP := hide (put_any m s (Wb.new W5) X5.out HMO.out hform HRR.out HKK.out)
    have R6 := hide ((Below.heap_alloc _ (.cells #[.slice none 0 0] 97) _ (lt_heap R5.out)).trans R5.out)
    clear he hq hsame hform
    by_cases hl : 16384 < m.pay.length
    · rw [if_pos hl] at EE
      have e2 : m.encL = [] := by unfold Mg.encL; rw [EE.out]; rfl
      have E2 := hide e2
      have h2 : (m.pay.length : Int) > 16384 := by omega
      clear e2 hl
      go_wp2_with (first | (go_at_call 18; refine (newWriter_any _).mono ?_; rintro e w1 ⟨rfl, rfl⟩) | (go_at_call 19; with_reducible refine HP.out.mono ?_; rintro e W7 ⟨rfl, J7⟩) | (go_at_call 20; refine (wLen _ _ _ J7.st).mono ?_; rintro e w8 ⟨rfl, rfl⟩) | (with_reducible refine at_list ?_; refine wpList_loadS AM _ rfl w.heap.size rfl (m.cells s).toArray HZ.out 38 R6.out rfl ?_))
      go_ret2
      exact ⟨by rw [EE.out, E2.out]; rfl, below_next Z5.out J7.bel⟩
    · rw [if_neg hl] at EE
      have e2 : m.encL = m.pay := by unfold Mg.encL; rw [EE.out]; rfl
      have E2 := hide e2
      have h2 : ¬ (m.pay.length : Int) > 16384 := by omega
      clear e2 hl
      go_wp2_with (first | (go_at_call 18; refine (newWriter_any _).mono ?_; rintro e w1 ⟨rfl, rfl⟩) | (go_at_call 19; with_reducible refine HP.out.mono ?_; rintro e W7 ⟨rfl, J7⟩) | (go_at_call 20; refine (wLen _ _ _ J7.st).mono ?_; rintro e w8 ⟨rfl, rfl⟩) | (go_at_call 21; refine (wText _ _ _ J7.st).mono ?_; rintro e w9 ⟨rfl, rfl⟩) | (with_reducible refine at_list ?_; refine wpList_loadS AM _ rfl w.heap.size rfl (m.cells s).toArray HZ.out 38 R6.out rfl ?_))
      go_ret2
      exact ⟨by rw [EE.out, E2.out]; rfl, below_next Z5.out J7.bel⟩
end
end Go.Proofs.YtkoidjaaojmcnaaGreat
