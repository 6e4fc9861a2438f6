/- The law's awake. -/
import Derived.Test.YtkbfcfmjbgnhcaaKp
import Derived.Test.YtkbfcfmjbgnhcaaKu
namespace Go.Proofs.Ytkbfcfmjbgnhcaa
open Go.RowKit
open Go.Deep
set_option linter.unusedVariables false
def aI : Ti := ⟨zeros, 0, ⟨#[107]⟩, 0, zeros_len⟩
def aO : Tu := ⟨5, ⟨#[]⟩⟩
def aT : Tm := ⟨1, [aI], [aO], 0⟩
theorem bld_aI (W : World) : (Instr.build 48 #[(1, .string ⟨#[107]⟩)]).run Try.prog W = .ok (.agg aI.cells.toArray) W := by kernel_rfl
theorem bld_aO (W : World) : (Instr.build 52 #[(0, .int .u64 5)]).run Try.prog W = .ok (.agg aO.cells.toArray) W := by kernel_rfl
theorem bld_aT (W : World) (g h : Nat) : (Instr.build 26 #[(0, .int .u32 1), (1, .slice (some ⟨g, 0, none⟩) 1 1), (2, .slice (some ⟨h, 0, none⟩) 1 1)]).run Try.prog W = .ok (.agg (aT.cells (some ⟨g, 0, none⟩) 1 (some ⟨h, 0, none⟩) 1)) W := by kernel_rfl
theorem aT_told : aT.toldE = 0 := by decide +kernel
theorem aT_len : aT.bytes.length = 61 := by decide +kernel
theorem aT_fit : aT.fit := ⟨by decide, by decide⟩
theorem aT_ok : aT.ok := ⟨⟨by decide, by intro x hx; rw [List.mem_singleton.1 hx]; show (1 : Nat) ≤ 520; decide⟩, ⟨by decide, by intro x hx; rw [List.mem_singleton.1 hx]; show (0 : Nat) ≤ 520; decide⟩⟩
theorem LX.made {α : Type} {E : Ek α} (w : World) (x : α) : LX E (w.alloc (.cells (E.enc x).toArray E.e)) (.slice (some ⟨w.heap.size, 0, none⟩) 1 1) [x] := by
  refine ⟨_, 1, rfl, Nat.le_refl _, fun i hi => ⟨w.heap.size, 0, rfl, by simp, ?_⟩⟩
  have : i = 0 := by simpa using hi
  subst this
  intro j v hv
  rw [cell_of_row _ _ _ _ _ _ (heap_alloc_last w _), List.getElem?_toArray]
  simpa using hv
section
set_option maxRecDepth 10000
set_option maxHeartbeats 4000000
theorem awake10 (w : World) : Calls Try.prog 7 #[] w fun r w' => r = .returned (.bool true) ∧ Below w.heap.size w w' := by
  have HE : Hid (∀ W (g h : Nat), LT W aT (some ⟨g, 0, none⟩) 1 (some ⟨h, 0, none⟩) 1 → Calls Try.prog 12 #[.agg (aT.cells (some ⟨g, 0, none⟩) 1 (some ⟨h, 0, none⟩) 1)] W fun r w' => r = .returned (.tuple #[.string (txt aT.bytes), .int .i64 0]) ∧ Below W.heap.size W w') := fun W g h l => by
    have := encode_any aT _ _ _ _ W l aT_fit
    rw [Tm.encT, if_pos aT_told, aT_told] at this
    exact this
  have HD : Hid (∀ W, Calls Try.prog 13 #[.string (txt aT.bytes)] W fun r w' => ∃ (ai : Option Addr) (ci : Nat) (ao : Option Addr) (co : Nat), r = .returned (.tuple #[.agg (aT.cells ai ci ao co), .int .i64 0]) ∧ LO W w' aT ai ci ao co ∧ Below W.heap.size W w') := fun W => by
    have hz : (txt aT.bytes).size = 61 := by rw [txt_sz, aT_len]
    refine (decode_any (txt aT.bytes) W (by rw [hz]; decide)).mono ?_
    rintro r w' ⟨m, ai, ci, ao, co, n', e', h1, h2, h3⟩
    obtain ⟨q1, rfl, q3⟩ := h2.full aT [] rfl aT_ok (by rw [txt_list]; simp) (by rw [aT_len]; decide)
    rcases h3 with ⟨_, _, rfl, h4, _⟩ | ⟨h4, _⟩
    · exact ⟨ai, ci, ao, co, rfl, h4, h1⟩
    · exact absurd ⟨q1, by rw [q3, hz, aT_len]⟩ h4
  have hz : ((txt aT.bytes).size : Int) = 61 := by rw [txt_sz, aT_len]; rfl
  generalize txt aT.bytes = tb at *
  have s1 : (w.alloc (.cells (KA.enc aI).toArray KA.e)).heap.size = w.heap.size + 1 := by simp
  have s2 : ((w.alloc (.cells (KA.enc aI).toArray KA.e)).alloc (.cells (KO.enc aO).toArray KO.e)).heap.size = w.heap.size + 2 := by simp
  have l1 := LX.made (E := KA) w aI
  have l2 := LX.made (E := KO) (w.alloc (.cells (KA.enc aI).toArray KA.e)) aO
  rw [s1] at l2
  have B0 : Hid (Below w.heap.size w (((w.alloc (.cells (KA.enc aI).toArray KA.e)).alloc (.cells (KO.enc aO).toArray KO.e)).alloc (.cells (aT.cells (some ⟨w.heap.size, 0, none⟩) 1 (some ⟨w.heap.size + 1, 0, none⟩) 1) 26))) := below3 w _ _ _
  have L0 : Hid (LT (((w.alloc (.cells (KA.enc aI).toArray KA.e)).alloc (.cells (KO.enc aO).toArray KO.e)).alloc (.cells (aT.cells (some ⟨w.heap.size, 0, none⟩) 1 (some ⟨w.heap.size + 1, 0, none⟩) 1) 26)) aT (some ⟨w.heap.size, 0, none⟩) 1 (some ⟨w.heap.size + 1, 0, none⟩) 1) := ⟨l1.below (((Below.refl _ _).alloc (Nat.le_refl _) _).alloc (by simp) _), l2.below ((Below.refl _ _).alloc (Nat.le_refl _) _)⟩
  have R0 := hide (heap_alloc_last ((w.alloc (.cells (KA.enc aI).toArray KA.e)).alloc (.cells (KO.enc aO).toArray KO.e)) (.cells (aT.cells (some ⟨w.heap.size, 0, none⟩) 1 (some ⟨w.heap.size + 1, 0, none⟩) 1) 26))
  rw [s2] at R0
  clear l1 l2 s1
  go_enter Try.func7, Try.ntmps7
  go_upto_region 2 with ((with_reducible refine at_list ?_); first | refine wpList_bldX rfl _ rfl #[(1, .string ⟨#[107]⟩)] aI.cells.toArray (by rfl) bld_aI ?_ | refine Ek.wpBs1 KA rfl _ rfl aI rfl ?_ | refine wpList_bldX rfl _ rfl #[(0, .int .u64 5)] aO.cells.toArray (by rfl) bld_aO ?_ | refine Ek.wpBs1 KO rfl _ rfl aO rfl ?_ | refine wpList_bldX rfl _ rfl #[(0, .int .u32 1), (1, .slice (some ⟨_, 0, none⟩) 1 1), (2, .slice (some ⟨_, 0, none⟩) 1 1)] _ (by rfl) (fun W => bld_aT W _ _) ?_ | refine wpList_allocA AT rfl rfl ?_ | refine wpList_store_newA AT rfl _ _ rfl _ rfl (aT.cells (some ⟨_, 0, none⟩) 1 (some ⟨_, 0, none⟩) 1) rfl (aT.one _ _ _ _) rfl rfl ?_)
  rw [s2]
  clear s2
  simp only [Act.put, List.setIfInBounds_toArray, List.set_cons_zero, List.set_cons_succ]
  generalize ((w.alloc (.cells (KA.enc aI).toArray KA.e)).alloc (.cells (KO.enc aO).toArray KO.e)).alloc (.cells (aT.cells (some ⟨w.heap.size, 0, none⟩) 1 (some ⟨w.heap.size + 1, 0, none⟩) 1) 26) = W0 at *
  have HE2 := hide (HE.out W0 _ _ L0.out)
  have CZ : Hid ((aT.cells (some ⟨w.heap.size, 0, none⟩) 1 (some ⟨w.heap.size + 1, 0, none⟩) 1).size = 4) := rfl
  generalize aT.cells (some ⟨w.heap.size, 0, none⟩) 1 (some ⟨w.heap.size + 1, 0, none⟩) 1 = CT at *
  go_upto_region 4 with (first | (go_at_call 12; refine HE2.out.mono ?_; rintro r W1 ⟨rfl, b1⟩; have B1 := hide (below_next B0.out b1); clear b1) | (go_at_call 13; refine (HD.out _).mono ?_; rintro r W2 ⟨ai, ci, ao, co, rfl, lo, b1⟩; have B2 := hide (below_next B1.out b1); have L2 := hide lo; clear b1 lo) | ((with_reducible refine at_list ?_); first | refine wpList_loadS AT _ rfl (w.heap.size + 2) rfl CT CZ.out 26 R0.out (by rfl) ?_ | refine wpList_allocA AT rfl rfl ?_ | refine wpList_store_newA AT rfl _ _ rfl _ rfl (aT.cells ai ci ao co) rfl (aT.one _ _ _ _) rfl rfl ?_))
  have ba := (Below.refl W2.heap.size W2).alloc (Nat.le_refl _) (.cells (aT.cells ai ci ao co) 26)
  have c2 : (W2.alloc (.cells (aT.cells ai ci ao co) 26)).cell? ⟨W2.heap.size, 2, none⟩ = some (.slice ao 1 co) := by rw [cell_of_row _ _ _ _ _ _ (heap_alloc_last W2 _)]; rfl
  have lo := (L2.out.lt.below ba).o
  obtain ⟨g, off, hg⟩ := lo.base (by decide)
  subst hg
  have c3 := lo.range 0 (by decide) 0 (.int .u64 5) rfl
  simp only [Nat.zero_mul, Nat.add_zero] at c3
  have B3 := hide (below_next B2.out ba)
  clear lo ba L2 HE HD HE2 R0 L0
  generalize W2.alloc (.cells (aT.cells ai ci (some ⟨g, off, none⟩) co) 26) = W3 at *
  have hz2 : ((tb.size : Int) == 61) = true := by rw [hz]; rfl
  clear hz
  go_wp2
  go_ret
  exact ⟨rfl, B3.out⟩
end
end Go.Proofs.Ytkbfcfmjbgnhcaa
