/- tx.Same: its contract. -/
import Derived.Test.YtfldpejdpinppaaKo
namespace Go.Proofs.Ytfldpejdpinppaa
open Go.RowKit
open Go.Deep
set_option linter.unusedVariables false
theorem Tm.same (a b : Tm) : decide (a = b) = (((a.ver.toNat : Int) == (b.ver.toNat : Int)) && (decide (a.ins = b.ins) && (decide (a.outs = b.outs) && ((a.time.toNat : Int) == (b.time.toNat : Int))))) := by
  rw [Bool.eq_iff_iff]
  simp only [Bool.and_eq_true, beq_iff_eq, decide_eq_true_eq]
  constructor
  · rintro rfl
    exact ⟨rfl, rfl, rfl, rfl⟩
  · rintro ⟨h1, h2, h3, h4⟩
    obtain ⟨v, i, o, t⟩ := a
    obtain ⟨v', i', o', t'⟩ := b
    simp only at h1 h2 h3 h4
    have e1 : v = v' := UInt32.toNat_inj.1 (by omega)
    have e2 : t = t' := UInt32.toNat_inj.1 (by omega)
    subst e1 e2 h2 h3
    rfl
section
set_option maxRecDepth 10000
set_option maxHeartbeats 4000000
theorem same_any (a b : Tm) (ai : Option Addr) (ci : Nat) (ao : Option Addr) (co : Nat) (bi : Option Addr) (di : Nat) (bo : Option Addr) (d0 : Nat) (w : World) (ha : LT w a ai ci ao co) (hb : LT w b bi di bo d0) (hf : a.fit) : Calls Try.prog 21 #[.agg (a.cells ai ci ao co), .agg (b.cells bi di bo d0)] w fun r w' => r = .returned (.bool (decide (a = b))) ∧ Below w.heap.size w w' := by
  have e1 := heap_alloc_last w (.cells (a.cells ai ci ao co) 26)
  have r1 := (Below.heap_alloc _ (.cells (b.cells bi di bo d0) 26) _ (lt_heap e1)).trans e1
  have r2 := heap_alloc_last (w.alloc (.cells (a.cells ai ci ao co) 26)) (.cells (b.cells bi di bo d0) 26)
  have hsz : (w.alloc (.cells (a.cells ai ci ao co) 26)).heap.size = w.heap.size + 1 := by simp
  rw [hsz] at r2
  have b0 : Below w.heap.size w ((w.alloc (.cells (a.cells ai ci ao co) 26)).alloc (.cells (b.cells bi di bo d0) 26)) := ((Below.refl _ _).alloc (Nat.le_refl _) _).alloc (by simp) _
  have HA := hide (ha.below b0)
  have HB := hide (hb.below b0)
  have B0 := hide b0
  have R1 := hide r1
  have R2 := hide r2
  have HI : Hid (∀ W, Below ((w.alloc (.cells (a.cells ai ci ao co) 26)).alloc (.cells (b.cells bi di bo d0) 26)).heap.size ((w.alloc (.cells (a.cells ai ci ao co) 26)).alloc (.cells (b.cells bi di bo d0) 26)) W → Calls Try.prog 37 #[.slice ai a.ins.length ci, .slice bi b.ins.length di] W fun e w' => e = .returned (.bool (decide (a.ins = b.ins))) ∧ Below W.heap.size W w') := fun W h => equal_in _ _ _ _ W ((ha.below b0).below h).i ((hb.below b0).below h).i (by have := hf.i; omega)
  have HO : Hid (∀ W, Below ((w.alloc (.cells (a.cells ai ci ao co) 26)).alloc (.cells (b.cells bi di bo d0) 26)).heap.size ((w.alloc (.cells (a.cells ai ci ao co) 26)).alloc (.cells (b.cells bi di bo d0) 26)) W → Calls Try.prog 38 #[.slice ao a.outs.length co, .slice bo b.outs.length d0] W fun e w' => e = .returned (.bool (decide (a.outs = b.outs))) ∧ Below W.heap.size W w') := fun W h => equal_out _ _ _ _ W ((ha.below b0).below h).o ((hb.below b0).below h).o (by have := hf.o; omega)
  obtain ⟨res, hres⟩ : ∃ r : Bool, r = decide (a = b) := ⟨_, rfl⟩
  rw [← hres]
  rw [Tm.same] at hres
  have HR := hide hres
  clear e1 r1 r2 b0 ha hb hf hres
  generalize hCA : a.cells ai ci ao co = CA at *
  generalize hCB : b.cells bi di bo d0 = CB at *
  go_enter Try.func21, Try.ntmps21
  go_upto_region 1 with ((with_reducible refine at_list ?_); first | refine wpList_boxA rfl _ rfl CA rfl ?_ | refine wpList_boxA rfl _ rfl CB rfl ?_)
  try rw [hsz]
  clear hsz
  generalize (w.alloc (.cells CA 26)).alloc (.cells CB 26) = W0 at *
  have CC : Hid (∀ W, Below W0.heap.size W0 W → (W.cell? ⟨w.heap.size, 2, none⟩ = some (.slice ao a.outs.length co) ∧ W.cell? ⟨w.heap.size + 1, 2, none⟩ = some (.slice bo b.outs.length d0)) ∧ (W.cell? ⟨w.heap.size, 3, none⟩ = some (.int .u32 (a.time.toNat : Int)) ∧ W.cell? ⟨w.heap.size + 1, 3, none⟩ = some (.int .u32 (b.time.toNat : Int)))) := fun W h => by
    have q1 := (h.block _ (lt_heap R1.out)).trans R1.out
    have q2 := (h.block _ (lt_heap R2.out)).trans R2.out
    refine ⟨⟨?_, ?_⟩, ?_, ?_⟩
    · rw [cell_of_row _ _ _ _ _ _ q1, ← hCA]; rfl
    · rw [cell_of_row _ _ _ _ _ _ q2, ← hCB]; rfl
    · rw [cell_of_row _ _ _ _ _ _ q1, ← hCA]; rfl
    · rw [cell_of_row _ _ _ _ _ _ q2, ← hCB]; rfl
  have c0 : W0.cell? ⟨w.heap.size, 0, none⟩ = some (.int .u32 (a.ver.toNat : Int)) := by rw [cell_of_row _ _ _ _ _ _ R1.out, ← hCA]; rfl
  have d0' : W0.cell? ⟨w.heap.size + 1, 0, none⟩ = some (.int .u32 (b.ver.toNat : Int)) := by rw [cell_of_row _ _ _ _ _ _ R2.out, ← hCB]; rfl
  have c1 : W0.cell? ⟨w.heap.size, 1, none⟩ = some (.slice ai a.ins.length ci) := by rw [cell_of_row _ _ _ _ _ _ R1.out, ← hCA]; rfl
  have d1 : W0.cell? ⟨w.heap.size + 1, 1, none⟩ = some (.slice bi b.ins.length di) := by rw [cell_of_row _ _ _ _ _ _ R2.out, ← hCB]; rfl
  clear R1 R2 HA HB hCA hCB
  generalize hk1 : ((a.ver.toNat : Int) == (b.ver.toNat : Int)) = k1 at *
  generalize decide (a.ins = b.ins) = k2 at *
  generalize decide (a.outs = b.outs) = k3 at *
  generalize hk4 : ((a.time.toNat : Int) == (b.time.toNat : Int)) = k4 at *
  generalize (a.ver.toNat : Int) = v1 at *
  generalize (b.ver.toNat : Int) = v2 at *
  generalize (a.time.toNat : Int) = v3 at *
  generalize (b.time.toNat : Int) = v4 at *
  cases k1
  · have hr : res = false := HR.out
    subst hr
    go_wp2
    go_ret
    exact ⟨rfl, B0.out⟩
  cases k2
  · have hr : res = false := HR.out
    subst hr
    go_wp2_with (go_at_call 37; refine (HI.out _ (Below.refl _ _)).mono ?_; rintro r W1 ⟨rfl, b1⟩; have B1 := hide b1; clear b1)
    go_ret
    exact ⟨rfl, below_next B0.out B1.out⟩
  cases k3
  · have hr : res = false := HR.out
    subst hr
    go_wp2_with (first | (go_at_call 37; refine (HI.out _ (Below.refl _ _)).mono ?_; rintro r W1 ⟨rfl, b1⟩; have B1 := hide b1; clear b1 c0 c1 d0' d1; obtain ⟨⟨c2, d2⟩, c3, d3⟩ := CC.out _ B1.out) | (go_at_call 38; refine (HO.out _ B1.out).mono ?_; rintro r W2 ⟨rfl, b1⟩; have B2 := hide (below_next B1.out b1); clear b1))
    go_ret
    exact ⟨rfl, below_next B0.out B2.out⟩
  have hr : res = k4 := HR.out
  subst hr
  go_wp2_with (first | (go_at_call 37; refine (HI.out _ (Below.refl _ _)).mono ?_; rintro r W1 ⟨rfl, b1⟩; have B1 := hide b1; clear b1 c0 c1 d0' d1; obtain ⟨⟨c2, d2⟩, c3, d3⟩ := CC.out _ B1.out) | (go_at_call 38; refine (HO.out _ B1.out).mono ?_; rintro r W2 ⟨rfl, b1⟩; have B2 := hide (below_next B1.out b1); clear b1 c2 d2 c3 d3; obtain ⟨⟨c2, d2⟩, c3, d3⟩ := CC.out _ B2.out))
  go_ret
  exact ⟨rfl, below_next B0.out B2.out⟩
end
end Go.Proofs.Ytfldpejdpinppaa
