/- A stream: the contracts of Need, Clone and of the calls of a nil one. -/
import Derived.Test.YtjcfojedahgfpaaDoorFl
namespace Go.Proofs.YtjcfojedahgfpaaDoor
open Go.RowKit
open Go.Deep
section
set_option maxRecDepth 10000
set_option maxHeartbeats 4000000
variable {Q : List (Nat × Obj)} {B W : World} {b : Nat} {v : Value} {x : Sq}
theorem need_any (h : Sm Q B W b v x) : Calls Tryd.prog 21 #[.pointer (some ⟨b, 0, none⟩)] W fun e w' => e = .returned (.int .i64 x.need) ∧ Below W.heap.size W w' := by
  have HB := hide (broken_any h)
  have HF := hide (front_any h)
  have HN : Hid (∀ W', Below W.heap.size W W' → W'.cell? ⟨b, 1, none⟩ = some v) := fun W' hb => (h.next hb).c1
  obtain ⟨ao, cap, rfl, _⟩ := h.om.form
  have hl := h.long
  have hw : x.whole ≤ 16408 := by
    have := headM_long x.magic x.held
    unfold Sq.whole
    omega
  unfold Sq.need
  generalize x.whole = wh at *
  generalize x.frontE = fe at *
  generalize x.held.length = L at *
  generalize x.broken = br at *
  clear h
  by_cases hb : br = 0
  · subst hb
    by_cases hf : fe = 0
    · subst hf
      rw [if_neg (by simp)]
      have hmax : max (0 : Int) ((wh : Int) - (L : Int)) = ((wh - L : Nat) : Int) := by omega
      go_enter Tryd.func21, Tryd.ntmps21
      go_wp2_with (first | (go_at_call 20; refine HB.out.mono ?_; rintro e w1 ⟨rfl, hw⟩; subst w1) | (go_at_call 36; refine HF.out.mono ?_; rintro e w2 ⟨rfl, b2⟩; have y1 := HN.out _ b2))
      go_ret
      exact ⟨rfl, b2⟩
    · rw [if_pos (.inr hf)]
      have hf' : (fe != 0) = true := by simp [hf]
      go_enter Tryd.func21, Tryd.ntmps21
      go_wp2_with (first | (go_at_call 20; refine HB.out.mono ?_; rintro e w1 ⟨rfl, hw⟩; subst w1) | (go_at_call 36; refine HF.out.mono ?_; rintro e w2 ⟨rfl, b2⟩; have y1 := HN.out _ b2))
      go_ret
      exact ⟨rfl, b2⟩
  · rw [if_pos (.inl hb)]
    have hb' : (br != 0) = true := by simp [hb]
    go_enter Tryd.func21, Tryd.ntmps21
    go_wp2_with (first | (go_at_call 20; refine HB.out.mono ?_; rintro e w1 ⟨rfl, hw⟩; subst w1))
    go_ret
    exact ⟨rfl, Below.refl _ _⟩
theorem held_nil (w : World) : Calls Tryd.prog 16 #[.pointer none] w fun e w' => e = .returned (.int .i64 0) ∧ w' = w := by
  go_enter Tryd.func16, Tryd.ntmps16
  go_wp2
  go_ret
  exact ⟨rfl, rfl⟩
theorem taken_nil (w : World) : Calls Tryd.prog 19 #[.pointer none] w fun e w' => e = .returned (.int .i64 0) ∧ w' = w := by
  go_enter Tryd.func19, Tryd.ntmps19
  go_wp2
  go_ret
  exact ⟨rfl, rfl⟩
theorem broken_nil (w : World) : Calls Tryd.prog 20 #[.pointer none] w fun e w' => e = .returned (.int .i64 1) ∧ w' = w := by
  go_enter Tryd.func20, Tryd.ntmps20
  go_wp2
  go_ret
  exact ⟨rfl, rfl⟩
theorem clone_nil (w : World) : Calls Tryd.prog 22 #[.pointer none] w fun e w' => e = .returned (.pointer none) ∧ w' = w := by
  go_enter Tryd.func22, Tryd.ntmps22
  go_wp2
  go_ret
  exact ⟨rfl, rfl⟩
theorem need_nil (w : World) : Calls Tryd.prog 21 #[.pointer none] w fun e w' => e = .returned (.int .i64 0) ∧ w' = w := by
  go_enter Tryd.func21, Tryd.ntmps21
  go_wp2_with (go_at_call 20; refine (broken_nil _).mono ?_; rintro e w1 ⟨rfl, rfl⟩)
  go_ret
  exact ⟨rfl, rfl⟩
theorem feed_nil (s : ByteArray) (w : World) : Calls Tryd.prog 17 #[.pointer none, .string s] w fun e w' => e = .returned (.int .i64 0) ∧ w' = w := by
  go_enter Tryd.func17, Tryd.ntmps17
  go_wp2_with (go_at_call 20; refine (broken_nil _).mono ?_; rintro e w1 ⟨rfl, rfl⟩)
  go_ret
  exact ⟨rfl, rfl⟩
theorem next_nil (w : World) : Calls Tryd.prog 18 #[.pointer none] w fun e w' => e = .returned (.tuple #[.agg fz2, .bool false, .int .i64 1]) ∧ Below w.heap.size w w' := by
  have B1 : Hid (Below w.heap.size w (w.alloc (.cells fz2 24))) := (Below.refl _ _).alloc (Nat.le_refl _) _
  have R1 := hide (heap_alloc_last w (.cells fz2 24))
  go_enter Tryd.func18, Tryd.ntmps18
  go_upto_region 1 with (refine wpList_allocA AF rfl rfl ?_)
  generalize w.alloc (.cells fz2 24) = W1 at *
  go_wp2_with (first | (go_at_call 20; refine (broken_nil _).mono ?_; rintro e w1 ⟨rfl, hw⟩; subst w1) | refine wpList_buildA AF rfl rfl ?_ | refine wpList_storeA AF rfl _ _ rfl w.heap.size fz2 rfl fz2_one rfl rfl fz2 rfl 24 R1.out ?_)
  exact bodyPost_ret (v := .tuple #[.agg fz2, .bool false, .int .i64 1]) (resA3 AF Tryd.results18 _ _ w.heap.size 24 fz2 rfl rfl (setRow_heap _ _ _ _ _ _ R1.out) _ (by rfl) _ (by rfl)) rfl ⟨rfl, below_setRow B1.out (Nat.le_refl _) _⟩
end
end Go.Proofs.YtjcfojedahgfpaaDoor
