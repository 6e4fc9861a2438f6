/- The contract of Part where there are no ids, or not as many marks. -/
import Derived.Test.YthlaibkdcebekaaDoorNi
namespace Go.Proofs.YthlaibkdcebekaaDoor
open Go.RowKit
open Go.Deep
section
set_option maxRecDepth 10000
set_option maxHeartbeats 4000000
theorem part_no (v vm : Value) (L : List (List UInt8)) (ms : List Bool) (w : World) (hL : LH w v L) (hM : LB w vm ms) (hno : L.length = 0 ∨ ms.length ≠ L.length) : Calls Tryd.prog 6 #[v, vm] w fun e w' => e = .returned (.tuple #[.agg #[.int .i64 0, .slice none 0 0, .slice none 0 0], .int .i64 1]) ∧ Below w.heap.size w w' := by
  obtain ⟨ao, cap, rfl⟩ := hL.form
  obtain ⟨am, capm, rfl, _⟩ := hM.form
  have hq : ((L.length : Int) == 0) = true ∨ (((L.length : Int) == 0) = false ∧ ((ms.length : Int) != (L.length : Int)) = true) := by
    by_cases h : L.length = 0
    · left
      rw [h]
      rfl
    · right
      rw [beq_eq_false_iff_ne, bne_iff_ne]
      omega
  clear hL hM hno
  rcases hq with h1 | ⟨h1, h2⟩
  all_goals
    go_enter Tryd.func6, Tryd.ntmps6
    go_wp2
    have B1 : Hid (Below w.heap.size w (w.alloc (.cells #[.int .i64 0, .slice none 0 0, .slice none 0 0] 25))) := (Below.refl _ _).alloc (Nat.le_refl _) _
    have hr : (w.alloc (.cells #[.int .i64 0, .slice none 0 0, .slice none 0 0] 25)).rowIs w.heap.size 25 3 (fun i => if i = 0 then .int .i64 0 else .slice none 0 0) := row_of (n := 3) rfl (heap_alloc_last w _) (fun i hi => by
      have : i = 0 ∨ i = 1 ∨ i = 2 := by omega
      rcases this with rfl | rfl | rfl <;> rfl)
    have d0 := World.rowIs.cell hr (i := 0) (by decide)
    have d1 := World.rowIs.cell hr (i := 1) (by decide)
    have d2 := World.rowIs.cell hr (i := 2) (by decide)
    clear hr
    generalize w.alloc (.cells #[.int .i64 0, .slice none 0 0, .slice none 0 0] 25) = W1 at *
    refine bodyPost_ret (v := .tuple #[.agg #[.int .i64 0, .slice none 0 0, .slice none 0 0], .int .i64 1]) ?_ rfl ⟨rfl, B1.out⟩
    unfold results
    rw [Tryd.results6]
    simp at d0 d1 d2
    go_simp
end
end Go.Proofs.YthlaibkdcebekaaDoor
