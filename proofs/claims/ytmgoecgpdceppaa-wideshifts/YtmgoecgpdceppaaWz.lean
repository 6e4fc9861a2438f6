/- The law WideShifts: its walk. -/
import Derived.Test.YtmgoecgpdceppaaWy
import Derived.Test.YtmgoecgpdceppaaWl
namespace Go.Proofs.Ytmgoecgpdceppaa
open Go.RowKit
open Go.Deep
/-- What is known of the world in WideShifts. -/
def Jq (w W : World) (m : Nat) : Prop := W.heap[w.heap.size]? = some (.cells (wn m) 24 (0, 0)) ∧ Below w.heap.size w W
theorem Jq.next {w W W' : World} {m : Nat} (j : Jq w W m) (h : Below W.heap.size W W') : Jq w W' m := ⟨(h.block _ (lt_heap j.1)).trans j.1, below_next j.2 h⟩
/-- Rows beside it: three numbers. -/
structure Jr (w W : World) (m g5 g7 g8 X Y Z : Nat) : Prop where
  q : Jq w W m
  r5 : W.heap[g5]? = some (.cells (wn X) 24 (0, 0))
  r7 : W.heap[g7]? = some (.cells (wn Y) 24 (0, 0))
  r8 : W.heap[g8]? = some (.cells (wn Z) 23 (0, 0))
theorem Jr.next {w W W' : World} {m g5 g7 g8 X Y Z : Nat} (j : Jr w W m g5 g7 g8 X Y Z) (h : Below W.heap.size W W') : Jr w W' m g5 g7 g8 X Y Z :=
  ⟨j.q.next h, (h.block _ (lt_heap j.r5)).trans j.r5, (h.block _ (lt_heap j.r7)).trans j.r7, (h.block _ (lt_heap j.r8)).trans j.r8⟩
theorem Jr.drew {w W : World} {m g5 g7 g8 X Y Z : Nat} (j : Jr w W m g5 g7 g8 X Y Z) : Jr w W.drew m g5 g7 g8 X Y Z := ⟨⟨j.q.1, j.q.2.drew⟩, j.r5, j.r7, j.r8⟩
theorem below_alloc (W : World) (o : Obj) : Below W.heap.size W (W.alloc o) := (Below.refl _ _).alloc (Nat.le_refl _) _
section
set_option maxRecDepth 10000
set_option maxHeartbeats 4000000
theorem shifts_pos (m n X Y : Nat) (L v : Bool) (hm : m < M) (hX : X < M) (hY : Y < M)
    (HV1 : Hid (∀ W, Calls Try.prog 26 #[.agg (wn m), .int .i64 (n : Int)] W fun e w' => e = .returned (.bool v) ∧ Below W.heap.size W w'))
    (HV2 : Hid (∀ W, Calls Try.prog 27 #[.agg (wn m), .int .i64 (n : Int)] W fun e w' => e = .returned (.bool v) ∧ Below W.heap.size W w'))
    (HL : Hid (∀ W, Calls Try.prog 28 #[.agg (wn m), .int .i64 (n : Int)] W fun e w' => e = .returned (.tuple #[.agg (wn X), .bool L]) ∧ Below W.heap.size W w'))
    (HR : Hid (∀ W, Calls Try.prog 29 #[.agg (wn m), .int .i64 (n : Int)] W fun e w' => e = .returned (.agg (wn Y)) ∧ Below W.heap.size W w'))
    (HL2 : Hid (∀ W, Calls Try.prog 30 #[.agg (wn m), .int .i64 (n : Int)] W fun e w' => e = .returned (.tuple #[.agg (wn X), .bool L]) ∧ Below W.heap.size W w'))
    (HR2 : Hid (∀ W, Calls Try.prog 31 #[.agg (wn m), .int .i64 (n : Int)] W fun e w' => e = .returned (.agg (wn Y)) ∧ Below W.heap.size W w')) (w : World) :
    Calls Try.prog 5 #[.agg (wn m), .int .i64 (n : Int)] w fun e w' => e = .returned (.bool true) ∧ Below w.heap.size w w' := by
  have hn0 : (0 : Int) ≤ n := by omega
  have hLL : (L == L) = true := by simp
  have HAw := hide fun W => awake_any W
  have HBi := hide fun W => bits_any m hm W
  have HRi := hide fun W => rbits_any m hm W
  have J0 : Hid (Jq w (w.alloc (.cells (wn m) 24)) m) := ⟨heap_alloc_last w _, below_alloc w _⟩
  have eX := hide fun W => eqW X X hX hX W
  rw [show decide (X = X) = true by simp] at eX
  have eY := hide fun W => eqW Y Y hY hY W
  rw [show decide (Y = Y) = true by simp] at eY
  have hbb : (((bl m : Nat) : Int) != ((bl m : Nat) : Int)) = false := by simp
  have hvv : (v != v) = false := by simp
  generalize bl m = B at *
  clear hm hX hY
  go_enter Try.func5, Try.ntmps5
  go_upto_region 1 with (refine wpList_boxA rfl _ rfl (wn m) rfl ?_)
  generalize w.alloc (.cells (wn m) 24) = W0 at *
  obtain ⟨I, hne, F, i0, h0, hJ, hcl⟩ : ∃ (I : Type) (_ : Nonempty I) (F : I → World) (i0 : I), W0.drew = F i0 ∧ Hid (∀ i, Jq w (F i) m) ∧ Hid (∀ i W', Below (F i).heap.size (F i) W' → ∃ j, W' = F j) :=
    ⟨{W : World // Jq w W m}, ⟨⟨_, J0.out⟩⟩, Subtype.val, ⟨W0.drew, J0.out.1, J0.out.2.drew⟩, rfl, fun i => i.2, fun i W' b => ⟨⟨W', i.2.next b⟩, rfl⟩⟩
  refine wp_region_class_lit (by kernel_rfl) (by kernel_rfl) i0 h0 ?_
  repeat (first | ((go_big_quiet_want; refine quiet_loadA AW _ (by rfl) _ (by rfl) (wn m) (wn_size _) 24 (fun W hC => by obtain ⟨i, rfl⟩ := hC; exact (hJ.out i).1) ?_); go_big_quiet_on; simp only [Act.put, List.setIfInBounds_toArray, List.set_cons_succ, List.set_cons_zero]) | go_big_quiet_step (first | (go_at_call 9; exact class_of hcl.out (HAw.out _)) | (go_at_call 24; exact class_of hcl.out (HBi.out _)) | (go_at_call 25; exact class_of hcl.out (HRi.out _)) | (go_at_call 26; exact class_of hcl.out (HV1.out _)) | (go_at_call 27; exact class_of hcl.out (HV2.out _))))
  refine wpQuiet_nil ?_
  rintro _ ⟨iq, rfl⟩
  have J1 := hide (hJ.out iq)
  clear hJ hcl h0 J0 HAw HBi HRi HV1 HV2
  generalize F iq = W1 at *
  have a1 := hide J1.out.1
  go_upto_region 5 with (first | refine wpList_loadA AW rfl _ rfl _ rfl (wn m) (wn_size _) 24 a1.out ?_ | refine wpList_loadA AW rfl _ rfl _ rfl (wn m) (wn_size _) 24 a3.out ?_ | (go_at_call 28; refine (HL.out _).mono ?_; rintro e w2 ⟨rfl, b2⟩; have J2 := hide (J1.out.next b2); have J3 := hide (J2.out.next (below_alloc w2 (.cells (wn X) 24))); have a3 := hide J3.out.1; have r5 := hide (heap_alloc_last w2 (.cells (wn X) 24)); clear b2) | (go_at_call 29; refine (HR.out _).mono ?_; rintro e w4 ⟨rfl, b4⟩; have J4 := hide (J3.out.next b4); have q5 := hide ((b4.block _ (lt_heap r5.out)).trans r5.out); clear b4) | refine wpList_allocA AW rfl rfl ?_ | refine wpList_store_newA AW rfl _ _ rfl _ rfl (wn X) (wn_size _) (wn_one _) rfl rfl ?_ | refine wpList_store_newA AW rfl _ _ rfl _ rfl (wn Y) (wn_size _) (wn_one _) rfl rfl ?_)
  have J5 := hide (J4.out.next (below_alloc w4 (.cells (wn Y) 24)))
  have p5 := hide (((below_alloc w4 (.cells (wn Y) 24)).block _ (lt_heap q5.out)).trans q5.out)
  have p7 := hide (heap_alloc_last w4 (.cells (wn Y) 24))
  clear J1 J2 J3 J4 a1 a3 r5 q5 HL HR
  generalize w4.alloc (.cells (wn Y) 24) = W5 at *
  generalize w4.heap.size = g7 at *
  generalize w2.heap.size = g5 at *
  have a5 := hide J5.out.1
  go_upto_region 7 with (first | refine wpList_loadA AW rfl _ rfl _ rfl (wn m) (wn_size _) 24 a5.out ?_ | (go_at_call 30; refine (HL2.out _).mono ?_; rintro e w6 ⟨rfl, b6⟩; have J6 : Hid (Jq w w6 m ∧ w6.heap[g5]? = some (.cells (wn X) 24 (0, 0)) ∧ w6.heap[g7]? = some (.cells (wn Y) 24 (0, 0))) := ⟨J5.out.next b6, (b6.block _ (lt_heap p5.out)).trans p5.out, (b6.block _ (lt_heap p7.out)).trans p7.out⟩; clear b6) | refine wpList_allocA AR rfl rfl ?_ | refine wpList_store_newA AR rfl _ _ rfl _ rfl (wn X) (wn_size _) (wn_one _) rfl rfl ?_)
  have J7 : Hid (Jr w (w6.alloc (.cells (wn X) 23)) m g5 g7 w6.heap.size X Y X) := by
    have b := below_alloc w6 (.cells (wn X) 23)
    exact ⟨J6.out.1.next b, (b.block _ (lt_heap J6.out.2.1)).trans J6.out.2.1, (b.block _ (lt_heap J6.out.2.2)).trans J6.out.2.2, heap_alloc_last _ _⟩
  clear J5 J6 p5 p7 a5 HL2
  generalize w6.alloc (.cells (wn X) 23) = W7 at *
  generalize w6.heap.size = g8 at *
  obtain ⟨I2, hne2, F2, i2, h2, hJ2, hcl2⟩ : ∃ (I : Type) (_ : Nonempty I) (F : I → World) (i0 : I), W7.drew = F i0 ∧ Hid (∀ i, Jr w (F i) m g5 g7 g8 X Y X) ∧ Hid (∀ i W', Below (F i).heap.size (F i) W' → ∃ j, W' = F j) :=
    ⟨{W : World // Jr w W m g5 g7 g8 X Y X}, ⟨⟨_, J7.out⟩⟩, Subtype.val, ⟨W7.drew, J7.out.drew⟩, rfl, fun i => i.2, fun i W' b => ⟨⟨W', i.2.next b⟩, rfl⟩⟩
  refine wp_region_class_lit (by kernel_rfl) (by kernel_rfl) i2 h2 ?_
  repeat (first | ((go_big_quiet_want; first | refine quiet_loadA AW _ (by rfl) w.heap.size (by rfl) (wn m) (wn_size _) 24 (fun W hC => by obtain ⟨i, rfl⟩ := hC; exact (hJ2.out i).q.1) ?_ | refine quiet_loadA AW _ (by rfl) g5 (by rfl) (wn X) (wn_size _) 24 (fun W hC => by obtain ⟨i, rfl⟩ := hC; exact (hJ2.out i).r5) ?_ | refine quiet_loadA AW _ (by rfl) g7 (by rfl) (wn Y) (wn_size _) 24 (fun W hC => by obtain ⟨i, rfl⟩ := hC; exact (hJ2.out i).r7) ?_ | refine quiet_loadA AR _ (by rfl) g8 (by rfl) (wn X) (wn_size _) 23 (fun W hC => by obtain ⟨i, rfl⟩ := hC; exact (hJ2.out i).r8) ?_ | refine quiet_eql 24 _ _ _ (by rfl) (wn X) (wn X) (by rfl) (by rfl) eqgW true eX.out ?_ | refine quiet_eql 24 _ _ _ (by rfl) (wn Y) (wn Y) (by rfl) (by rfl) eqgW true eY.out ?_); go_big_quiet_on; simp only [Act.put, List.setIfInBounds_toArray, List.set_cons_succ, List.set_cons_zero]) | go_big_quiet_step ((go_at_call 31; exact class_of hcl2.out (HR2.out _))))
  refine wpQuiet_nil ?_
  rintro _ ⟨ir, rfl⟩
  go_wp2
  go_ret
  exact ⟨rfl, (hJ2.out ir).q.2⟩
theorem shifts_neg (m : Nat) (n : Int) (k X Y : Nat) (L v : Bool) (hm : m < M) (hX : X < M) (hY : Y < M) (hn : n < 0) (hk : (n ≤ -256 ∧ k = 256) ∨ (-256 < n ∧ (k : Int) = -n))
    (HV1 : Hid (∀ W, Calls Try.prog 26 #[.agg (wn m), .int .i64 n] W fun e w' => e = .returned (.bool v) ∧ Below W.heap.size W w'))
    (HV2 : Hid (∀ W, Calls Try.prog 27 #[.agg (wn m), .int .i64 n] W fun e w' => e = .returned (.bool v) ∧ Below W.heap.size W w'))
    (HL : Hid (∀ W, Calls Try.prog 28 #[.agg (wn m), .int .i64 n] W fun e w' => e = .returned (.tuple #[.agg (wn X), .bool false]) ∧ Below W.heap.size W w'))
    (HR : Hid (∀ W, Calls Try.prog 29 #[.agg (wn m), .int .i64 n] W fun e w' => e = .returned (.agg (wn Y)) ∧ Below W.heap.size W w'))
    (HL2 : Hid (∀ W, Calls Try.prog 30 #[.agg (wn m), .int .i64 (k : Int)] W fun e w' => e = .returned (.tuple #[.agg (wn Y), .bool L]) ∧ Below W.heap.size W w'))
    (HR2 : Hid (∀ W, Calls Try.prog 31 #[.agg (wn m), .int .i64 (k : Int)] W fun e w' => e = .returned (.agg (wn X)) ∧ Below W.heap.size W w')) (w : World) :
    Calls Try.prog 5 #[.agg (wn m), .int .i64 n] w fun e w' => e = .returned (.bool true) ∧ Below w.heap.size w w' := by
  have hn0 : ¬ (0 : Int) ≤ n := by omega
  have HK := hide hk
  have HN := hide hn
  clear hk hn
  have HAw := hide fun W => awake_any W
  have HBi := hide fun W => bits_any m hm W
  have HRi := hide fun W => rbits_any m hm W
  have J0 : Hid (Jq w (w.alloc (.cells (wn m) 24)) m) := ⟨heap_alloc_last w _, below_alloc w _⟩
  have eX := hide fun W => eqW X X hX hX W
  rw [show decide (X = X) = true by simp] at eX
  have eY := hide fun W => eqW Y Y hY hY W
  rw [show decide (Y = Y) = true by simp] at eY
  have hbb : (((bl m : Nat) : Int) != ((bl m : Nat) : Int)) = false := by simp
  have hvv : (v != v) = false := by simp
  generalize bl m = B at *
  clear hm hX hY
  go_enter Try.func5, Try.ntmps5
  go_upto_region 1 with (refine wpList_boxA rfl _ rfl (wn m) rfl ?_)
  generalize w.alloc (.cells (wn m) 24) = W0 at *
  obtain ⟨I, hne, F, i0, h0, hJ, hcl⟩ : ∃ (I : Type) (_ : Nonempty I) (F : I → World) (i0 : I), W0.drew = F i0 ∧ Hid (∀ i, Jq w (F i) m) ∧ Hid (∀ i W', Below (F i).heap.size (F i) W' → ∃ j, W' = F j) :=
    ⟨{W : World // Jq w W m}, ⟨⟨_, J0.out⟩⟩, Subtype.val, ⟨W0.drew, J0.out.1, J0.out.2.drew⟩, rfl, fun i => i.2, fun i W' b => ⟨⟨W', i.2.next b⟩, rfl⟩⟩
  refine wp_region_class_lit (by kernel_rfl) (by kernel_rfl) i0 h0 ?_
  repeat (first | ((go_big_quiet_want; refine quiet_loadA AW _ (by rfl) _ (by rfl) (wn m) (wn_size _) 24 (fun W hC => by obtain ⟨i, rfl⟩ := hC; exact (hJ.out i).1) ?_); go_big_quiet_on; simp only [Act.put, List.setIfInBounds_toArray, List.set_cons_succ, List.set_cons_zero]) | go_big_quiet_step (first | (go_at_call 9; exact class_of hcl.out (HAw.out _)) | (go_at_call 24; exact class_of hcl.out (HBi.out _)) | (go_at_call 25; exact class_of hcl.out (HRi.out _)) | (go_at_call 26; exact class_of hcl.out (HV1.out _)) | (go_at_call 27; exact class_of hcl.out (HV2.out _))))
  refine wpQuiet_nil ?_
  rintro _ ⟨iq, rfl⟩
  have J1 := hide (hJ.out iq)
  clear hJ hcl h0 J0 HAw HBi HRi HV1 HV2
  generalize F iq = W1 at *
  have a1 := hide J1.out.1
  go_upto_region 5 with (first | refine wpList_loadA AW rfl _ rfl _ rfl (wn m) (wn_size _) 24 a1.out ?_ | refine wpList_loadA AW rfl _ rfl _ rfl (wn m) (wn_size _) 24 a3.out ?_ | (go_at_call 28; refine (HL.out _).mono ?_; rintro e w2 ⟨rfl, b2⟩; have J2 := hide (J1.out.next b2); have J3 := hide (J2.out.next (below_alloc w2 (.cells (wn X) 24))); have a3 := hide J3.out.1; have r5 := hide (heap_alloc_last w2 (.cells (wn X) 24)); clear b2) | (go_at_call 29; refine (HR.out _).mono ?_; rintro e w4 ⟨rfl, b4⟩; have J4 := hide (J3.out.next b4); have q5 := hide ((b4.block _ (lt_heap r5.out)).trans r5.out); clear b4) | refine wpList_allocA AW rfl rfl ?_ | refine wpList_store_newA AW rfl _ _ rfl _ rfl (wn X) (wn_size _) (wn_one _) rfl rfl ?_ | refine wpList_store_newA AW rfl _ _ rfl _ rfl (wn Y) (wn_size _) (wn_one _) rfl rfl ?_)
  have J5 := hide (J4.out.next (below_alloc w4 (.cells (wn Y) 24)))
  have p5 := hide (((below_alloc w4 (.cells (wn Y) 24)).block _ (lt_heap q5.out)).trans q5.out)
  have p7 := hide (heap_alloc_last w4 (.cells (wn Y) 24))
  clear J1 J2 J3 J4 a1 a3 r5 q5 HL HR
  generalize w4.alloc (.cells (wn Y) 24) = W5 at *
  generalize w4.heap.size = g7 at *
  generalize w2.heap.size = g5 at *
  have a5 := hide J5.out.1
  rcases HK.out with ⟨h1, h2⟩ | ⟨h1, h2⟩
  · have h3 : ¬ (-256 : Int) < n := by omega
    subst h2
    rw [show ((256 : Nat) : Int) = 256 from rfl] at HL2 HR2
    clear h1 HK HN
    go_upto_region 12 with (first | refine wpList_loadA AW rfl _ rfl _ rfl (wn m) (wn_size _) 24 a5.out ?_ | (go_at_call 30; refine (HL2.out _).mono ?_; rintro e w6 ⟨rfl, b6⟩; have J6 : Hid (Jq w w6 m ∧ w6.heap[g5]? = some (.cells (wn X) 24 (0, 0)) ∧ w6.heap[g7]? = some (.cells (wn Y) 24 (0, 0))) := ⟨J5.out.next b6, (b6.block _ (lt_heap p5.out)).trans p5.out, (b6.block _ (lt_heap p7.out)).trans p7.out⟩; clear b6) | refine wpList_allocA AR rfl rfl ?_ | refine wpList_store_newA AR rfl _ _ rfl _ rfl (wn Y) (wn_size _) (wn_one _) rfl rfl ?_)
    have J7 : Hid (Jr w (w6.alloc (.cells (wn Y) 23)) m g5 g7 w6.heap.size X Y Y) := by
      have b := below_alloc w6 (.cells (wn Y) 23)
      exact ⟨J6.out.1.next b, (b.block _ (lt_heap J6.out.2.1)).trans J6.out.2.1, (b.block _ (lt_heap J6.out.2.2)).trans J6.out.2.2, heap_alloc_last _ _⟩
    clear J5 J6 p5 p7 a5 HL2
    generalize w6.alloc (.cells (wn Y) 23) = W7 at *
    generalize w6.heap.size = g8 at *
    obtain ⟨I2, hne2, F2, i2, h2, hJ2, hcl2⟩ : ∃ (I : Type) (_ : Nonempty I) (F : I → World) (i0 : I), W7.drew = F i0 ∧ Hid (∀ i, Jr w (F i) m g5 g7 g8 X Y Y) ∧ Hid (∀ i W', Below (F i).heap.size (F i) W' → ∃ j, W' = F j) :=
      ⟨{W : World // Jr w W m g5 g7 g8 X Y Y}, ⟨⟨_, J7.out⟩⟩, Subtype.val, ⟨W7.drew, J7.out.drew⟩, rfl, fun i => i.2, fun i W' b => ⟨⟨W', i.2.next b⟩, rfl⟩⟩
    refine wp_region_class_lit (by kernel_rfl) (by kernel_rfl) i2 h2 ?_
    repeat (first | ((go_big_quiet_want; first | refine quiet_loadA AW _ (by rfl) w.heap.size (by rfl) (wn m) (wn_size _) 24 (fun W hC => by obtain ⟨i, rfl⟩ := hC; exact (hJ2.out i).q.1) ?_ | refine quiet_loadA AW _ (by rfl) g5 (by rfl) (wn X) (wn_size _) 24 (fun W hC => by obtain ⟨i, rfl⟩ := hC; exact (hJ2.out i).r5) ?_ | refine quiet_loadA AW _ (by rfl) g7 (by rfl) (wn Y) (wn_size _) 24 (fun W hC => by obtain ⟨i, rfl⟩ := hC; exact (hJ2.out i).r7) ?_ | refine quiet_loadA AR _ (by rfl) g8 (by rfl) (wn Y) (wn_size _) 23 (fun W hC => by obtain ⟨i, rfl⟩ := hC; exact (hJ2.out i).r8) ?_ | refine quiet_eql 24 _ _ _ (by rfl) (wn X) (wn X) (by rfl) (by rfl) eqgW true eX.out ?_ | refine quiet_eql 24 _ _ _ (by rfl) (wn Y) (wn Y) (by rfl) (by rfl) eqgW true eY.out ?_); go_big_quiet_on; simp only [Act.put, List.setIfInBounds_toArray, List.set_cons_succ, List.set_cons_zero]) | go_big_quiet_step ((go_at_call 31; exact class_of hcl2.out (HR2.out _))))
    refine wpQuiet_nil ?_
    rintro _ ⟨ir, rfl⟩
    go_wp2
    go_ret
    exact ⟨rfl, (hJ2.out ir).q.2⟩
  · have h4 : IntKind.i64.wrap (-n) = k := by rw [h2]; exact wrapI _ (by have := HN.out; omega) (by omega)
    clear h2 HK HN
    go_upto_region 12 with (first | refine wpList_loadA AW rfl _ rfl _ rfl (wn m) (wn_size _) 24 a5.out ?_ | (go_at_call 30; refine (HL2.out _).mono ?_; rintro e w6 ⟨rfl, b6⟩; have J6 : Hid (Jq w w6 m ∧ w6.heap[g5]? = some (.cells (wn X) 24 (0, 0)) ∧ w6.heap[g7]? = some (.cells (wn Y) 24 (0, 0))) := ⟨J5.out.next b6, (b6.block _ (lt_heap p5.out)).trans p5.out, (b6.block _ (lt_heap p7.out)).trans p7.out⟩; clear b6) | refine wpList_allocA AR rfl rfl ?_ | refine wpList_store_newA AR rfl _ _ rfl _ rfl (wn Y) (wn_size _) (wn_one _) rfl rfl ?_)
    have J7 : Hid (Jr w (w6.alloc (.cells (wn Y) 23)) m g5 g7 w6.heap.size X Y Y) := by
      have b := below_alloc w6 (.cells (wn Y) 23)
      exact ⟨J6.out.1.next b, (b.block _ (lt_heap J6.out.2.1)).trans J6.out.2.1, (b.block _ (lt_heap J6.out.2.2)).trans J6.out.2.2, heap_alloc_last _ _⟩
    clear J5 J6 p5 p7 a5 HL2
    generalize w6.alloc (.cells (wn Y) 23) = W7 at *
    generalize w6.heap.size = g8 at *
    obtain ⟨I2, hne2, F2, i2, h2, hJ2, hcl2⟩ : ∃ (I : Type) (_ : Nonempty I) (F : I → World) (i0 : I), W7.drew = F i0 ∧ Hid (∀ i, Jr w (F i) m g5 g7 g8 X Y Y) ∧ Hid (∀ i W', Below (F i).heap.size (F i) W' → ∃ j, W' = F j) :=
      ⟨{W : World // Jr w W m g5 g7 g8 X Y Y}, ⟨⟨_, J7.out⟩⟩, Subtype.val, ⟨W7.drew, J7.out.drew⟩, rfl, fun i => i.2, fun i W' b => ⟨⟨W', i.2.next b⟩, rfl⟩⟩
    refine wp_region_class_lit (by kernel_rfl) (by kernel_rfl) i2 h2 ?_
    repeat (first | ((go_big_quiet_want; first | refine quiet_loadA AW _ (by rfl) w.heap.size (by rfl) (wn m) (wn_size _) 24 (fun W hC => by obtain ⟨i, rfl⟩ := hC; exact (hJ2.out i).q.1) ?_ | refine quiet_loadA AW _ (by rfl) g5 (by rfl) (wn X) (wn_size _) 24 (fun W hC => by obtain ⟨i, rfl⟩ := hC; exact (hJ2.out i).r5) ?_ | refine quiet_loadA AW _ (by rfl) g7 (by rfl) (wn Y) (wn_size _) 24 (fun W hC => by obtain ⟨i, rfl⟩ := hC; exact (hJ2.out i).r7) ?_ | refine quiet_loadA AR _ (by rfl) g8 (by rfl) (wn Y) (wn_size _) 23 (fun W hC => by obtain ⟨i, rfl⟩ := hC; exact (hJ2.out i).r8) ?_ | refine quiet_eql 24 _ _ _ (by rfl) (wn X) (wn X) (by rfl) (by rfl) eqgW true eX.out ?_ | refine quiet_eql 24 _ _ _ (by rfl) (wn Y) (wn Y) (by rfl) (by rfl) eqgW true eY.out ?_); go_big_quiet_on; simp only [Act.put, List.setIfInBounds_toArray, List.set_cons_succ, List.set_cons_zero]) | go_big_quiet_step ((go_at_call 31; exact class_of hcl2.out (HR2.out _))))
    refine wpQuiet_nil ?_
    rintro _ ⟨ir, rfl⟩
    go_wp2
    go_ret
    exact ⟨rfl, (hJ2.out ir).q.2⟩
end
end Go.Proofs.Ytmgoecgpdceppaa
