/- Calls on a nil disk, and the walk of DiskNil. -/
import Derived.Test.YtpjpgmfcmjdkbaaDv
namespace Go.Proofs.Ytpjpgmfcmjdkbaa
open Go.RowKit
open Go.Deep
open Go.Lib
section
set_option maxRecDepth 10000
set_option maxHeartbeats 4000000
theorem plan_nil (v : Value) (w : World) : Calls Try.prog 19 #[.pointer none, v] w fun e w' => (∃ r, e = .returned r) ∧ w' = w := by
  go_enter Try.func19, Try.ntmps19
  go_wp2
  refine bodyPost_end (results_none (by kernel_rfl) _ _ _) rfl ?_
  exact ⟨⟨_, rfl⟩, rfl⟩
theorem part_nil (nm : ByteArray) (k n : Int) (w : World) : Calls Try.prog 20 #[.pointer none, .string nm, .int .i64 k, .int .i64 n] w fun e w' => e = .returned (.tuple #[.string ⟨#[]⟩, .int .i64 7]) ∧ Below w.heap.size w w' := by
  have HD := hide (find_nil nm w)
  go_enter Try.func20, Try.ntmps20
  go_wp2_with (go_at_call 42; refine HD.out.mono ?_; rintro e w1 ⟨rfl, hb⟩; have HB := hide hb; clear hb)
  go_ret2
  exact ⟨rfl, HB.out⟩
theorem cut_nil (nm : ByteArray) (k : Int) (w : World) : Calls Try.prog 22 #[.pointer none, .string nm, .int .i64 k] w fun e w' => e = .returned (.int .i64 7) ∧ Below w.heap.size w w' := by
  have HD := hide (find_nil nm w)
  go_enter Try.func22, Try.ntmps22
  go_wp2_with (go_at_call 42; refine HD.out.mono ?_; rintro e w1 ⟨rfl, hb⟩; have HB := hide hb; clear hb)
  go_ret
  exact ⟨rfl, HB.out⟩
theorem remove_nil (nm : ByteArray) (w : World) : Calls Try.prog 17 #[.pointer none, .string nm] w fun e w' => e = .returned (.int .i64 7) ∧ Below w.heap.size w w' := by
  have HD := hide (find_nil nm w)
  go_enter Try.func17, Try.ntmps17
  go_wp2_with (go_at_call 42; refine HD.out.mono ?_; rintro e w1 ⟨rfl, hb⟩; have HB := hide hb; clear hb)
  go_ret
  exact ⟨rfl, HB.out⟩
theorem move_nil (nm tn : ByteArray) (w : World) : Calls Try.prog 23 #[.pointer none, .string nm, .string tn] w fun e w' => e = .returned (.int .i64 7) ∧ Below w.heap.size w w' := by
  have HD := hide fun v W => ready_nil v W
  have hB : Hid (Below w.heap.size w (w.alloc (.cells #[.string nm, .string tn] 9))) := (Below.refl _ _).alloc (Nat.le_refl _) _
  go_enter Try.func23, Try.ntmps23
  go_wp2_with (go_at_call 43; refine (HD.out _ _).mono ?_; rintro e w1 ⟨rfl, hw⟩; subst w1)
  go_ret
  exact ⟨rfl, hB.out⟩
theorem names_nil (w : World) : Calls Try.prog 24 #[.pointer none] w fun e w' => e = .returned (.slice none 0 0) ∧ w' = w := by
  go_enter Try.func24, Try.ntmps24
  go_wp2
  go_ret
  exact ⟨rfl, rfl⟩
theorem sure_nil (w : World) : Calls Try.prog 25 #[.pointer none] w fun e w' => e = .returned (.map none) ∧ w' = w := by
  go_enter Try.func25, Try.ntmps25
  go_wp2
  go_ret
  exact ⟨rfl, rfl⟩
theorem changes_nil (w : World) : Calls Try.prog 27 #[.pointer none] w fun e w' => e = .returned (.int .i64 0) ∧ w' = w := by
  go_enter Try.func27, Try.ntmps27
  go_wp2
  go_ret
  exact ⟨rfl, rfl⟩
theorem loose_nil (w : World) : Calls Try.prog 28 #[.pointer none] w fun e w' => e = .returned (.int .i64 0) ∧ w' = w := by
  go_enter Try.func28, Try.ntmps28
  go_wp2
  go_ret
  exact ⟨rfl, rfl⟩
theorem clone_nil (w : World) : Calls Try.prog 29 #[.pointer none] w fun e w' => e = .returned (.pointer none) ∧ w' = w := by
  go_enter Try.func29, Try.ntmps29
  go_wp2
  go_ret
  exact ⟨rfl, rfl⟩
/-- An act in its box. -/
structure Ab (w W : World) (gb : Nat) (k a n : Int) (nm tn s : ByteArray) (vp : Value) : Prop where
  row : W.heap[gb]? = some (.cells #[.int .i64 k, .int .i64 a, .int .i64 n, .string nm, .string tn, .string s, vp] 35 (0, 0))
  bel : Below w.heap.size w W
section
variable {w W W' : World} {gb : Nat} {k a n : Int} {nm tn s : ByteArray} {vp : Value}
theorem Ab.next (h : Ab w W gb k a n nm tn s vp) (hb : Below W.heap.size W W') : Ab w W' gb k a n nm tn s vp := ⟨(hb.block _ (lt_heap h.row)).trans h.row, h.bel.trans (hb.mono h.bel.size)⟩
theorem Ab.c1 (h : Ab w W gb k a n nm tn s vp) : W.cell? ⟨gb, 1, none⟩ = some (.int .i64 a) := by rw [cell_of_row _ _ _ _ _ _ h.row]; rfl
theorem Ab.c2 (h : Ab w W gb k a n nm tn s vp) : W.cell? ⟨gb, 2, none⟩ = some (.int .i64 n) := by rw [cell_of_row _ _ _ _ _ _ h.row]; rfl
theorem Ab.c3 (h : Ab w W gb k a n nm tn s vp) : W.cell? ⟨gb, 3, none⟩ = some (.string nm) := by rw [cell_of_row _ _ _ _ _ _ h.row]; rfl
theorem Ab.c4 (h : Ab w W gb k a n nm tn s vp) : W.cell? ⟨gb, 4, none⟩ = some (.string tn) := by rw [cell_of_row _ _ _ _ _ _ h.row]; rfl
theorem Ab.c5 (h : Ab w W gb k a n nm tn s vp) : W.cell? ⟨gb, 5, none⟩ = some (.string s) := by rw [cell_of_row _ _ _ _ _ _ h.row]; rfl
end
theorem diskNil_walk (k a n : Int) (nm tn s : ByteArray) (vp : Value) (w : World) : Calls Try.prog 6 #[.agg #[.int .i64 k, .int .i64 a, .int .i64 n, .string nm, .string tn, .string s, vp]] w fun e w' => e = .returned (.bool true) ∧ Below w.heap.size w w' := by
  have A0 : Hid (Ab w (w.alloc (.cells #[.int .i64 k, .int .i64 a, .int .i64 n, .string nm, .string tn, .string s, vp] 35)) w.heap.size k a n nm tn s vp) := ⟨heap_alloc_last w _, (Below.refl _ _).alloc (Nat.le_refl _) _⟩
  have HPl := hide fun v W => plan_nil v W
  have HCr := hide fun x y W => crash_nil x y W
  have HRe := hide fun x W => read_nil x W
  have HPa := hide fun x y z W => part_nil x y z W
  have HSi := hide fun x W => size_nil x W
  have HAw := hide fun W => awake_any W
  have HWr := hide fun x y z W => write_nil x y z W
  have HAp := hide fun x y W => append_nil x y W
  have HCu := hide fun x y W => cut_nil x y W
  have HMo := hide fun x y W => move_nil x y W
  have HRm := hide fun x W => remove_nil x W
  have HSy := hide fun W => sync_nil W
  have HNa := hide fun W => names_nil W
  have HSu := hide fun W => sure_nil W
  have HDe := hide fun W => dead_nil W
  have HUp := hide fun W => up_nil W
  have HCh := hide fun W => changes_nil W
  have HLo := hide fun W => loose_nil W
  have HCl := hide fun W => clone_nil W
  go_enter Try.func6, Try.ntmps6
  go_upto_region 2 with fail
  generalize w.alloc (.cells #[.int .i64 k, .int .i64 a, .int .i64 n, .string nm, .string tn, .string s, vp] 35) = W0 at *
  have A := A0
  have a6 : W0.cell? ⟨w.heap.size, 6, none⟩ = some vp := by rw [cell_of_row _ _ _ _ _ _ A.out.row]; rfl
  have a1 := A.out.c1
  have a2 := A.out.c2
  have a3 := A.out.c3
  have a4 := A.out.c4
  have a5 := A.out.c5
  clear A0
  go_upto_region 3 with ((go_at_call 19; refine (HPl.out _ _).mono ?_; rintro e w1 ⟨⟨r, rfl⟩, hw⟩; subst w1))
  clear a6
  go_wp2_with (first | (go_at_call 13; refine (HCr.out _ _ _).mono ?_; rintro e w1 ⟨⟨r, rfl⟩, hw⟩; subst w1) | (go_at_call 15; refine (HRe.out _ _).mono ?_; rintro e w1 ⟨rfl, hb⟩; replace A := hide (A.out.next hb); clear hb; replace a1 := A.out.c1; replace a2 := A.out.c2; replace a3 := A.out.c3; replace a4 := A.out.c4; replace a5 := A.out.c5) | (go_at_call 20; refine (HPa.out _ _ _ _).mono ?_; rintro e w1 ⟨rfl, hb⟩; replace A := hide (A.out.next hb); clear hb; replace a1 := A.out.c1; replace a2 := A.out.c2; replace a3 := A.out.c3; replace a4 := A.out.c4; replace a5 := A.out.c5) | (go_at_call 21; refine (HSi.out _ _).mono ?_; rintro e w1 ⟨rfl, hb⟩; replace A := hide (A.out.next hb); clear hb; replace a1 := A.out.c1; replace a2 := A.out.c2; replace a3 := A.out.c3; replace a4 := A.out.c4; replace a5 := A.out.c5) | (go_at_call 8; refine (HAw.out _).mono ?_; rintro e w1 ⟨rfl, hb⟩; replace A := hide (A.out.next hb); clear hb; replace a1 := A.out.c1; replace a2 := A.out.c2; replace a3 := A.out.c3; replace a4 := A.out.c4; replace a5 := A.out.c5) | (go_at_call 16; refine (HWr.out _ _ _ _).mono ?_; rintro e w1 ⟨rfl, hb⟩; replace A := hide (A.out.next hb); clear hb; replace a1 := A.out.c1; replace a2 := A.out.c2; replace a3 := A.out.c3; replace a4 := A.out.c4; replace a5 := A.out.c5) | (go_at_call 11; refine (HAp.out _ _ _).mono ?_; rintro e w1 ⟨rfl, hw⟩; subst w1) | (go_at_call 22; refine (HCu.out _ _ _).mono ?_; rintro e w1 ⟨rfl, hb⟩; replace A := hide (A.out.next hb); clear hb; replace a1 := A.out.c1; replace a2 := A.out.c2; replace a3 := A.out.c3; replace a4 := A.out.c4; replace a5 := A.out.c5) | (go_at_call 23; refine (HMo.out _ _ _).mono ?_; rintro e w1 ⟨rfl, hb⟩; replace A := hide (A.out.next hb); clear hb; replace a1 := A.out.c1; replace a2 := A.out.c2; replace a3 := A.out.c3; replace a4 := A.out.c4; replace a5 := A.out.c5) | (go_at_call 17; refine (HRm.out _ _).mono ?_; rintro e w1 ⟨rfl, hb⟩; replace A := hide (A.out.next hb); clear hb; replace a1 := A.out.c1; replace a2 := A.out.c2; replace a3 := A.out.c3; replace a4 := A.out.c4; replace a5 := A.out.c5) | (go_at_call 12; refine (HSy.out _).mono ?_; rintro e w1 ⟨rfl, hw⟩; subst w1) | (go_at_call 24; refine (HNa.out _).mono ?_; rintro e w1 ⟨rfl, hw⟩; subst w1) | (go_at_call 25; refine (HSu.out _).mono ?_; rintro e w1 ⟨rfl, hw⟩; subst w1) | (go_at_call 26; refine (HDe.out _).mono ?_; rintro e w1 ⟨rfl, hw⟩; subst w1) | (go_at_call 14; refine (HUp.out _).mono ?_; rintro e w1 ⟨rfl, hw⟩; subst w1) | (go_at_call 27; refine (HCh.out _).mono ?_; rintro e w1 ⟨rfl, hw⟩; subst w1) | (go_at_call 28; refine (HLo.out _).mono ?_; rintro e w1 ⟨rfl, hw⟩; subst w1) | (go_at_call 29; refine (HCl.out _).mono ?_; rintro e w1 ⟨rfl, hw⟩; subst w1))
  go_ret
  exact ⟨rfl, A.out.bel⟩
end
end Go.Proofs.Ytpjpgmfcmjdkbaa
