/- What Encode asks of lists: does one of them ..; do places rise. -/
import Derived.Test.YtkoidjaaojmcnaaGreatM14
import Derived.Test.YtkoidjaaojmcnaaGreatM15
namespace Go.Proofs.YtkoidjaaojmcnaaGreat
open Go.RowKit
open Go.Deep
/-- Places that rise, as an answer. -/
def riseB : Int → List Int → Bool
  | _, [] => true
  | a, p :: r => decide (a < p) && decide (p ≤ 65535) && riseB p r
theorem riseB_iff (L : List Int) : ∀ a, riseB a L = true ↔ riseP a L := by
  induction L with
  | nil => intro a; simp [riseB, riseP]
  | cons x r ih => intro a; simp only [riseB, riseP, Bool.and_eq_true, decide_eq_true_eq, ih x, and_assoc]
theorem any_take {α : Type} (q : α → Bool) (L : List α) (k : Nat) (h : k < L.length) (h1 : (L.take k).any q = false) (h2 : q L[k] = false) : (L.take (k + 1)).any q = false := by
  rw [← List.take_append_getElem h, List.any_append, h1]
  simp [h2]
theorem any_here {α : Type} (q : α → Bool) (L : List α) (k : Nat) (h : k < L.length) (h2 : q L[k] = true) : L.any q = true := List.any_eq_true.2 ⟨L[k], List.getElem_mem h, h2⟩
section
set_option maxRecDepth 10000
set_option maxHeartbeats 4000000
theorem cl_rawlong (x : ByteArray) (w : World) : Calls Tryz.prog 38 #[.string x] w fun e w' => e = .returned (.bool ((fun x : ByteArray => decide (4096 < x.size)) x)) ∧ Below w.heap.size w w' := by
  show Calls _ _ _ _ fun e w' => e = .returned (.bool (decide _)) ∧ _
  by_cases h : 4096 < x.size
  · have h1 : (x.size : Int) > 4096 := by omega
    rw [decide_eq_true h]
    clear h
    go_enter Tryz.func38, Tryz.ntmps38
    go_wp2
    go_ret
    exact ⟨rfl, Below.refl _ _⟩
  · have h1 : ¬ (x.size : Int) > 4096 := by omega
    rw [decide_eq_false h]
    clear h
    go_enter Tryz.func38, Tryz.ntmps38
    go_wp2
    go_ret
    exact ⟨rfl, Below.refl _ _⟩
theorem idx_rawlong (L : List ByteArray) (v : Value) (w : World) (hx : LX KS w v L) (hn : L.length < 4611686018427387904) : Calls Tryz.prog 98 #[v, .func (.func 38) #[] #[]] w fun e w' => ∃ r : Int, e = .returned (.int .i64 r) ∧ decide (r ≥ 0) = L.any (fun x : ByteArray => decide (4096 < x.size)) ∧ Below w.heap.size w w' := by
  obtain ⟨ao, cap, rfl⟩ := hx.form
  have HX := hide hx
  have HN := hide hn
  have B0 := hide (Below.refl w.heap.size w)
  have HCL := hide (fun (x : ByteArray) W => cl_rawlong x W)
  generalize (fun x : ByteArray => decide (4096 < x.size)) = q at *
  clear hx hn
  go_enter Tryz.func98, Tryz.ntmps98
  go_wp2
  go_loopw [8] (fun i wr => ∃ k : Nat, k ≤ L.length ∧ i = .int .i64 (k : Int) ∧ Hid ((L.take k).any q = false ∧ Below w.heap.size w wr)) (fun i _ => (L.length - intOf i).toNat)
  case atStart => exact ⟨0, Nat.zero_le _, rfl, by simp, B0.out⟩
  case round =>
    clear B0
    obtain ⟨k, hk, rfl, J⟩ := hrel
    by_cases hlt : k < L.length
    · have h1 : (k : Int) < (L.length : Int) := by omega
      have h2 : (0 : Int) ≤ (k : Int) := by omega
      have h5 := HN.out
      have e1 : IntKind.i64.wrap ((k : Int) + 1) = k + 1 := wrapI _ (by omega) (by omega)
      have KK := hide (And.intro (show k + 1 ≤ L.length by omega) (show ((L.length : Int) - ((k : Int) + 1)).toNat < ((L.length : Int) - (k : Int)).toNat by omega))
      obtain ⟨ga, oa, rfl⟩ := HX.out.base (by omega)
      have hr := (HX.out.below J.out.2).range k hlt
      have AH := hide (any_here q L k hlt)
      have AT := hide (fun h => any_take q L k hlt J.out.1 h)
      have BW := hide J.out.2
      have CE := hide (HCL.out L[k] wr)
      generalize L[k] = x at *
      have c1 : wr.cell? ⟨ga, oa + k, none⟩ = some (.string x) := by
        have := hr 0 _ rfl
        simpa [KS] using this
      clear hr hlt hk HX h5 J
      generalize q x = qx at *
      cases qx
      · have AT2 := hide (AT.out rfl)
        clear AT AH
        go_wp2_with (first | (go_at_call 38; with_reducible refine CE.out.mono ?_; rintro e W3 ⟨rfl, be⟩; have B3 := hide (below_next BW.out be); clear be))
        exact ⟨⟨k + 1, KK.out.1, by go_num, AT2.out, B3.out⟩, by simpa [intOf] using KK.out.2⟩
      · have AH2 := hide (AH.out rfl)
        clear AT AH
        go_wp2_with (first | (go_at_call 38; with_reducible refine CE.out.mono ?_; rintro e W3 ⟨rfl, be⟩; have B3 := hide (below_next BW.out be); clear be))
        go_ret
        exact ⟨_, rfl, by rw [AH2.out]; exact decide_eq_true h2, B3.out⟩
    · have h1 : ¬ (k : Int) < (L.length : Int) := by omega
      have AN : Hid (L.any q = false) := by
        have := J.out.1
        rwa [List.take_of_length_le (by omega)] at this
      have BW := hide J.out.2
      clear J hlt hk HX
      go_wp2
      go_ret
      exact ⟨_, rfl, by rw [AN.out]; rfl, BW.out⟩
theorem has_rawlong (L : List ByteArray) (v : Value) (w : World) (hx : LX KS w v L) (hn : L.length < 4611686018427387904) : Calls Tryz.prog 37 #[v, .func (.func 38) #[] #[]] w fun e w' => e = .returned (.bool (L.any (fun x : ByteArray => decide (4096 < x.size)))) ∧ Below w.heap.size w w' := by
  have HI := hide (idx_rawlong L v w hx hn)
  generalize L.any (fun x : ByteArray => decide (4096 < x.size)) = q at *
  clear hx hn
  go_enter Tryz.func37, Tryz.ntmps37
  go_wp2_with (go_at_call 98; with_reducible refine HI.out.mono ?_; rintro e W1 ⟨r, rfl, hr, be⟩; have B1 := hide be; clear be)
  go_ret
  exact ⟨by rw [← hr]; rfl, B1.out⟩
theorem cl_not80 (x : ByteArray) (w : World) : Calls Tryz.prog 39 #[.string x] w fun e w' => e = .returned (.bool ((fun x : ByteArray => decide (x.size ≠ 80)) x)) ∧ Below w.heap.size w w' := by
  show Calls _ _ _ _ fun e w' => e = .returned (.bool (decide _)) ∧ _
  by_cases h : x.size ≠ 80
  · have h1 : ((x.size : Int) != 80) = true := by simp; omega
    rw [decide_eq_true h]
    clear h
    go_enter Tryz.func39, Tryz.ntmps39
    go_wp2
    go_ret
    exact ⟨by simp, Below.refl _ _⟩
  · have h1 : (x.size : Int) = 80 := by omega
    rw [decide_eq_false h]
    clear h
    go_enter Tryz.func39, Tryz.ntmps39
    go_wp2
    go_ret
    exact ⟨rfl, Below.refl _ _⟩
theorem idx_not80 (L : List ByteArray) (v : Value) (w : World) (hx : LX KS w v L) (hn : L.length < 4611686018427387904) : Calls Tryz.prog 98 #[v, .func (.func 39) #[] #[]] w fun e w' => ∃ r : Int, e = .returned (.int .i64 r) ∧ decide (r ≥ 0) = L.any (fun x : ByteArray => decide (x.size ≠ 80)) ∧ Below w.heap.size w w' := by
  obtain ⟨ao, cap, rfl⟩ := hx.form
  have HX := hide hx
  have HN := hide hn
  have B0 := hide (Below.refl w.heap.size w)
  have HCL := hide (fun (x : ByteArray) W => cl_not80 x W)
  generalize (fun x : ByteArray => decide (x.size ≠ 80)) = q at *
  clear hx hn
  go_enter Tryz.func98, Tryz.ntmps98
  go_wp2
  go_loopw [8] (fun i wr => ∃ k : Nat, k ≤ L.length ∧ i = .int .i64 (k : Int) ∧ Hid ((L.take k).any q = false ∧ Below w.heap.size w wr)) (fun i _ => (L.length - intOf i).toNat)
  case atStart => exact ⟨0, Nat.zero_le _, rfl, by simp, B0.out⟩
  case round =>
    clear B0
    obtain ⟨k, hk, rfl, J⟩ := hrel
    by_cases hlt : k < L.length
    · have h1 : (k : Int) < (L.length : Int) := by omega
      have h2 : (0 : Int) ≤ (k : Int) := by omega
      have h5 := HN.out
      have e1 : IntKind.i64.wrap ((k : Int) + 1) = k + 1 := wrapI _ (by omega) (by omega)
      have KK := hide (And.intro (show k + 1 ≤ L.length by omega) (show ((L.length : Int) - ((k : Int) + 1)).toNat < ((L.length : Int) - (k : Int)).toNat by omega))
      obtain ⟨ga, oa, rfl⟩ := HX.out.base (by omega)
      have hr := (HX.out.below J.out.2).range k hlt
      have AH := hide (any_here q L k hlt)
      have AT := hide (fun h => any_take q L k hlt J.out.1 h)
      have BW := hide J.out.2
      have CE := hide (HCL.out L[k] wr)
      generalize L[k] = x at *
      have c1 : wr.cell? ⟨ga, oa + k, none⟩ = some (.string x) := by
        have := hr 0 _ rfl
        simpa [KS] using this
      clear hr hlt hk HX h5 J
      generalize q x = qx at *
      cases qx
      · have AT2 := hide (AT.out rfl)
        clear AT AH
        go_wp2_with (first | (go_at_call 39; with_reducible refine CE.out.mono ?_; rintro e W3 ⟨rfl, be⟩; have B3 := hide (below_next BW.out be); clear be))
        exact ⟨⟨k + 1, KK.out.1, by go_num, AT2.out, B3.out⟩, by simpa [intOf] using KK.out.2⟩
      · have AH2 := hide (AH.out rfl)
        clear AT AH
        go_wp2_with (first | (go_at_call 39; with_reducible refine CE.out.mono ?_; rintro e W3 ⟨rfl, be⟩; have B3 := hide (below_next BW.out be); clear be))
        go_ret
        exact ⟨_, rfl, by rw [AH2.out]; exact decide_eq_true h2, B3.out⟩
    · have h1 : ¬ (k : Int) < (L.length : Int) := by omega
      have AN : Hid (L.any q = false) := by
        have := J.out.1
        rwa [List.take_of_length_le (by omega)] at this
      have BW := hide J.out.2
      clear J hlt hk HX
      go_wp2
      go_ret
      exact ⟨_, rfl, by rw [AN.out]; rfl, BW.out⟩
theorem has_not80 (L : List ByteArray) (v : Value) (w : World) (hx : LX KS w v L) (hn : L.length < 4611686018427387904) : Calls Tryz.prog 37 #[v, .func (.func 39) #[] #[]] w fun e w' => e = .returned (.bool (L.any (fun x : ByteArray => decide (x.size ≠ 80)))) ∧ Below w.heap.size w w' := by
  have HI := hide (idx_not80 L v w hx hn)
  generalize L.any (fun x : ByteArray => decide (x.size ≠ 80)) = q at *
  clear hx hn
  go_enter Tryz.func37, Tryz.ntmps37
  go_wp2_with (go_at_call 98; with_reducible refine HI.out.mono ?_; rintro e W1 ⟨r, rfl, hr, be⟩; have B1 := hide be; clear be)
  go_ret
  exact ⟨by rw [← hr]; rfl, B1.out⟩
theorem cl_filllong (x : Fd) (w : World) : Calls Tryz.prog 36 #[.agg x.cells.toArray] w fun e w' => e = .returned (.bool ((fun x : Fd => decide (4096 < x.raw.size)) x)) ∧ Below w.heap.size w w' := by
  show Calls _ _ _ _ fun e w' => e = .returned (.bool (decide _)) ∧ _
  have bA : Below w.heap.size w (w.alloc (.cells x.cells.toArray 77)) := (Below.refl _ _).alloc (Nat.le_refl _) _
  have c1 : (w.alloc (.cells x.cells.toArray 77)).cell? ⟨w.heap.size, 1, none⟩ = some (.string x.raw) := by rw [cell_of_row _ _ _ _ _ _ (heap_alloc_last w _)]; rfl
  have BA := hide bA
  clear bA
  by_cases h : 4096 < x.raw.size
  · have h1 : (x.raw.size : Int) > 4096 := by omega
    rw [decide_eq_true h]
    clear h
    go_enter Tryz.func36, Tryz.ntmps36
    go_wp2_with (with_reducible refine at_list ?_; refine wpList_boxA rfl _ rfl x.cells.toArray rfl ?_)
    go_ret
    exact ⟨rfl, BA.out⟩
  · have h1 : ¬ (x.raw.size : Int) > 4096 := by omega
    rw [decide_eq_false h]
    clear h
    go_enter Tryz.func36, Tryz.ntmps36
    go_wp2_with (with_reducible refine at_list ?_; refine wpList_boxA rfl _ rfl x.cells.toArray rfl ?_)
    go_ret
    exact ⟨rfl, BA.out⟩
theorem idx_filllong (L : List Fd) (v : Value) (w : World) (hx : LX KF w v L) (hn : L.length < 4611686018427387904) : Calls Tryz.prog 97 #[v, .func (.func 36) #[] #[]] w fun e w' => ∃ r : Int, e = .returned (.int .i64 r) ∧ decide (r ≥ 0) = L.any (fun x : Fd => decide (4096 < x.raw.size)) ∧ Below w.heap.size w w' := by
  obtain ⟨ao, cap, rfl⟩ := hx.form
  have HX := hide hx
  have HN := hide hn
  have B0 := hide (Below.refl w.heap.size w)
  have HCL := hide (fun (x : Fd) W => cl_filllong x W)
  generalize (fun x : Fd => decide (4096 < x.raw.size)) = q at *
  clear hx hn
  go_enter Tryz.func97, Tryz.ntmps97
  go_wp2
  go_loopw [8] (fun i wr => ∃ k : Nat, k ≤ L.length ∧ i = .int .i64 (k : Int) ∧ Hid ((L.take k).any q = false ∧ Below w.heap.size w wr)) (fun i _ => (L.length - intOf i).toNat)
  case atStart => exact ⟨0, Nat.zero_le _, rfl, by simp, B0.out⟩
  case round =>
    clear B0
    obtain ⟨k, hk, rfl, J⟩ := hrel
    by_cases hlt : k < L.length
    · have h1 : (k : Int) < (L.length : Int) := by omega
      have h2 : (0 : Int) ≤ (k : Int) := by omega
      have h5 := HN.out
      have e1 : IntKind.i64.wrap ((k : Int) + 1) = k + 1 := wrapI _ (by omega) (by omega)
      have KK := hide (And.intro (show k + 1 ≤ L.length by omega) (show ((L.length : Int) - ((k : Int) + 1)).toNat < ((L.length : Int) - (k : Int)).toNat by omega))
      obtain ⟨ga, oa, rfl⟩ := HX.out.base (by omega)
      have hr := (HX.out.below J.out.2).range k hlt
      have AH := hide (any_here q L k hlt)
      have AT := hide (fun h => any_take q L k hlt J.out.1 h)
      have BW := hide J.out.2
      have CE := hide (HCL.out L[k] wr)
      generalize L[k] = x at *
      have RG : Hid (wr.rangeAt ga (oa + k * 2) x.cells) := hr
      clear hr hlt hk HX h5 J
      generalize q x = qx at *
      cases qx
      · have AT2 := hide (AT.out rfl)
        clear AT AH
        go_wp2_with (first | (go_at_call 36; with_reducible refine CE.out.mono ?_; rintro e W3 ⟨rfl, be⟩; have B3 := hide (below_next BW.out be); clear be) | (with_reducible refine at_list ?_; refine wpLoadF _ rfl ga (oa + k * 2) rfl x RG.out rfl ?_))
        exact ⟨⟨k + 1, KK.out.1, by go_num, AT2.out, B3.out⟩, by simpa [intOf] using KK.out.2⟩
      · have AH2 := hide (AH.out rfl)
        clear AT AH
        go_wp2_with (first | (go_at_call 36; with_reducible refine CE.out.mono ?_; rintro e W3 ⟨rfl, be⟩; have B3 := hide (below_next BW.out be); clear be) | (with_reducible refine at_list ?_; refine wpLoadF _ rfl ga (oa + k * 2) rfl x RG.out rfl ?_))
        go_ret
        exact ⟨_, rfl, by rw [AH2.out]; exact decide_eq_true h2, B3.out⟩
    · have h1 : ¬ (k : Int) < (L.length : Int) := by omega
      have AN : Hid (L.any q = false) := by
        have := J.out.1
        rwa [List.take_of_length_le (by omega)] at this
      have BW := hide J.out.2
      clear J hlt hk HX
      go_wp2
      go_ret
      exact ⟨_, rfl, by rw [AN.out]; rfl, BW.out⟩
theorem has_filllong (L : List Fd) (v : Value) (w : World) (hx : LX KF w v L) (hn : L.length < 4611686018427387904) : Calls Tryz.prog 35 #[v, .func (.func 36) #[] #[]] w fun e w' => e = .returned (.bool (L.any (fun x : Fd => decide (4096 < x.raw.size)))) ∧ Below w.heap.size w w' := by
  have HI := hide (idx_filllong L v w hx hn)
  generalize L.any (fun x : Fd => decide (4096 < x.raw.size)) = q at *
  clear hx hn
  go_enter Tryz.func35, Tryz.ntmps35
  go_wp2_with (go_at_call 97; with_reducible refine HI.out.mono ?_; rintro e W1 ⟨r, rfl, hr, be⟩; have B1 := hide be; clear be)
  go_ret
  exact ⟨by rw [← hr]; rfl, B1.out⟩
theorem cl_shortbig (x : UInt64) (w : World) : Calls Tryz.prog 41 #[.int .u64 (x.toNat : Int)] w fun e w' => e = .returned (.bool ((fun x : UInt64 => decide (281474976710655 < x.toNat)) x)) ∧ Below w.heap.size w w' := by
  show Calls _ _ _ _ fun e w' => e = .returned (.bool (decide _)) ∧ _
  generalize x.toNat = n at *
  by_cases h : 281474976710655 < n
  · have h1 : (n : Int) > 281474976710655 := by omega
    rw [decide_eq_true h]
    clear h
    go_enter Tryz.func41, Tryz.ntmps41
    go_wp2
    go_ret
    exact ⟨rfl, Below.refl _ _⟩
  · have h1 : ¬ (n : Int) > 281474976710655 := by omega
    rw [decide_eq_false h]
    clear h
    go_enter Tryz.func41, Tryz.ntmps41
    go_wp2
    go_ret
    exact ⟨rfl, Below.refl _ _⟩
theorem idx_shortbig (L : List UInt64) (v : Value) (w : World) (hx : LX KU w v L) (hn : L.length < 4611686018427387904) : Calls Tryz.prog 99 #[v, .func (.func 41) #[] #[]] w fun e w' => ∃ r : Int, e = .returned (.int .i64 r) ∧ decide (r ≥ 0) = L.any (fun x : UInt64 => decide (281474976710655 < x.toNat)) ∧ Below w.heap.size w w' := by
  obtain ⟨ao, cap, rfl⟩ := hx.form
  have HX := hide hx
  have HN := hide hn
  have B0 := hide (Below.refl w.heap.size w)
  have HCL := hide (fun (x : UInt64) W => cl_shortbig x W)
  generalize (fun x : UInt64 => decide (281474976710655 < x.toNat)) = q at *
  clear hx hn
  go_enter Tryz.func99, Tryz.ntmps99
  go_wp2
  go_loopw [8] (fun i wr => ∃ k : Nat, k ≤ L.length ∧ i = .int .i64 (k : Int) ∧ Hid ((L.take k).any q = false ∧ Below w.heap.size w wr)) (fun i _ => (L.length - intOf i).toNat)
  case atStart => exact ⟨0, Nat.zero_le _, rfl, by simp, B0.out⟩
  case round =>
    clear B0
    obtain ⟨k, hk, rfl, J⟩ := hrel
    by_cases hlt : k < L.length
    · have h1 : (k : Int) < (L.length : Int) := by omega
      have h2 : (0 : Int) ≤ (k : Int) := by omega
      have h5 := HN.out
      have e1 : IntKind.i64.wrap ((k : Int) + 1) = k + 1 := wrapI _ (by omega) (by omega)
      have KK := hide (And.intro (show k + 1 ≤ L.length by omega) (show ((L.length : Int) - ((k : Int) + 1)).toNat < ((L.length : Int) - (k : Int)).toNat by omega))
      obtain ⟨ga, oa, rfl⟩ := HX.out.base (by omega)
      have hr := (HX.out.below J.out.2).range k hlt
      have AH := hide (any_here q L k hlt)
      have AT := hide (fun h => any_take q L k hlt J.out.1 h)
      have BW := hide J.out.2
      have CE := hide (HCL.out L[k] wr)
      generalize L[k] = x at *
      have c1 : wr.cell? ⟨ga, oa + k, none⟩ = some (.int .u64 (x.toNat : Int)) := by
        have := hr 0 _ rfl
        simpa [KU] using this
      clear hr hlt hk HX h5 J
      generalize q x = qx at *
      cases qx
      · have AT2 := hide (AT.out rfl)
        clear AT AH
        go_wp2_with (first | (go_at_call 41; with_reducible refine CE.out.mono ?_; rintro e W3 ⟨rfl, be⟩; have B3 := hide (below_next BW.out be); clear be))
        exact ⟨⟨k + 1, KK.out.1, by go_num, AT2.out, B3.out⟩, by simpa [intOf] using KK.out.2⟩
      · have AH2 := hide (AH.out rfl)
        clear AT AH
        go_wp2_with (first | (go_at_call 41; with_reducible refine CE.out.mono ?_; rintro e W3 ⟨rfl, be⟩; have B3 := hide (below_next BW.out be); clear be))
        go_ret
        exact ⟨_, rfl, by rw [AH2.out]; exact decide_eq_true h2, B3.out⟩
    · have h1 : ¬ (k : Int) < (L.length : Int) := by omega
      have AN : Hid (L.any q = false) := by
        have := J.out.1
        rwa [List.take_of_length_le (by omega)] at this
      have BW := hide J.out.2
      clear J hlt hk HX
      go_wp2
      go_ret
      exact ⟨_, rfl, by rw [AN.out]; rfl, BW.out⟩
theorem has_shortbig (L : List UInt64) (v : Value) (w : World) (hx : LX KU w v L) (hn : L.length < 4611686018427387904) : Calls Tryz.prog 40 #[v, .func (.func 41) #[] #[]] w fun e w' => e = .returned (.bool (L.any (fun x : UInt64 => decide (281474976710655 < x.toNat)))) ∧ Below w.heap.size w w' := by
  have HI := hide (idx_shortbig L v w hx hn)
  generalize L.any (fun x : UInt64 => decide (281474976710655 < x.toNat)) = q at *
  clear hx hn
  go_enter Tryz.func40, Tryz.ntmps40
  go_wp2_with (go_at_call 99; with_reducible refine HI.out.mono ?_; rintro e W1 ⟨r, rfl, hr, be⟩; have B1 := hide be; clear be)
  go_ret
  exact ⟨by rw [← hr]; rfl, B1.out⟩
theorem rise_stop (L : List Int) : ∀ (a : Int) (k : Nat) (h : k < L.length), ¬ (lastP a (L.take k) < L[k] ∧ L[k] ≤ 65535) → riseB a L = false := by
  induction L with
  | nil => intro a k h; simp at h
  | cons x r ih =>
    intro a k h hn
    rcases k with _ | k
    · have : ¬ (a < x ∧ x ≤ 65535) := by simpa [lastP] using hn
      simp only [riseB]
      by_cases h1 : a < x
      · rw [decide_eq_true h1, decide_eq_false (show ¬ x ≤ 65535 from fun h2 => this ⟨h1, h2⟩)]
        rfl
      · rw [decide_eq_false h1]
        rfl
    · have := ih x k (by simpa using h) (by simpa [lastP] using hn)
      simp only [riseB, this, Bool.and_false]
theorem rise_end (L : List Int) : ∀ a, (∀ k (h : k < L.length), lastP a (L.take k) < L[k] ∧ L[k] ≤ 65535) → riseB a L = true := by
  induction L with
  | nil => intro a _; rfl
  | cons x r ih =>
    intro a h
    have h0 := h 0 (by simp)
    have h1 : a < x ∧ x ≤ 65535 := by simpa [lastP] using h0
    have h2 := ih x fun k hk => by
      have := h (k + 1) (by simpa using hk)
      simpa [lastP] using this
    simp only [riseB, h2, Bool.and_true, decide_eq_true h1.1, decide_eq_true h1.2]
theorem lastP_snoc (a : Int) (L : List Int) (k : Nat) (h : k < L.length) : lastP a (L.take (k + 1)) = L[k] := by
  rw [← List.take_append_getElem h, lastP_app]
theorem rise_any (L : List Int) (v : Value) (w : World) (hx : LX KP w v L) (hn : L.length < 4611686018427387904) : Calls Tryz.prog 42 #[v] w fun e w' => e = .returned (.bool (riseB (-1) L)) ∧ Below w.heap.size w w' := by
  obtain ⟨ao, cap, rfl⟩ := hx.form
  have HX := hide hx
  have HN := hide hn
  clear hx hn
  go_enter Tryz.func42, Tryz.ntmps42
  go_wp2
  go_loopw [3, 8] (fun a i wr => ∃ k : Nat, k ≤ L.length ∧ i = .int .i64 (k : Int) ∧ a = .int .i64 (lastP (-1) (L.take k)) ∧ Hid (∀ j (h : j < L.length), j < k → lastP (-1) (L.take j) < L[j] ∧ L[j] ≤ 65535) ∧ wr = w) (fun _ i _ => (L.length - intOf i).toNat)
  case atStart => exact ⟨0, Nat.zero_le _, rfl, rfl, fun j _ h => absurd h (Nat.not_lt_zero _), rfl⟩
  case round =>
    obtain ⟨k, hk, rfl, rfl, J, rfl⟩ := hrel
    by_cases hlt : k < L.length
    · have h1 : (k : Int) < (L.length : Int) := by omega
      have h2 : (0 : Int) ≤ (k : Int) := by omega
      have h5 := HN.out
      have e1 : IntKind.i64.wrap ((k : Int) + 1) = k + 1 := wrapI _ (by omega) (by omega)
      have KK := hide (And.intro (show k + 1 ≤ L.length by omega) (show ((L.length : Int) - ((k : Int) + 1)).toNat < ((L.length : Int) - (k : Int)).toNat by omega))
      obtain ⟨ga, oa, rfl⟩ := HX.out.base (by omega)
      have hr := HX.out.range k hlt
      have c1 : wr.cell? ⟨ga, oa + k, none⟩ = some (.int .i64 L[k]) := by
        have := hr 0 _ rfl
        simpa [KP] using this
      have RS := hide (rise_stop L (-1) k hlt)
      have LS := hide (lastP_snoc (-1) L k hlt)
      have JN : Hid ((lastP (-1) (L.take k) < L[k] ∧ L[k] ≤ 65535) → ∀ j (h : j < L.length), j < k + 1 → lastP (-1) (L.take j) < L[j] ∧ L[j] ≤ 65535) := fun hq j hj hjk => by
        by_cases e : j = k
        · subst e; exact hq
        · exact J.out j hj (by omega)
      generalize L[k] = x at *
      generalize lastP (-1) (L.take k) = a at *
      clear hr hlt hk HX h5 J
      by_cases ha : x ≤ a
      · have RF : Hid (riseB (-1) L = false) := RS.out fun h => by omega
        clear RS LS JN
        go_wp2
        go_ret
        exact ⟨by rw [RF.out]; rfl, Below.refl _ _⟩
      · by_cases hb : x > 65535
        · have RF : Hid (riseB (-1) L = false) := RS.out fun h => by omega
          clear RS LS JN
          go_wp2
          go_ret
          exact ⟨by rw [RF.out]; rfl, Below.refl _ _⟩
        · have JN2 := hide (JN.out ⟨by omega, by omega⟩)
          clear RS JN
          go_wp2
          exact ⟨⟨k + 1, KK.out.1, by go_num, by rw [LS.out], JN2, trivial⟩, by simpa [intOf] using KK.out.2⟩
    · have h1 : ¬ (k : Int) < (L.length : Int) := by omega
      have RE := hide (rise_end L (-1) fun j hj => J.out j hj (by omega))
      clear J hlt hk HX
      go_wp2
      go_ret
      exact ⟨by rw [RE.out]; rfl, Below.refl _ _⟩
theorem wpBs1P {w : World} {ops : Array Oper} {rest : List Oper} {o : Oper} {a : Act} {Q : Exit → Act → World → Prop} (hgd : o.guard = none) (x : Operand) (ho : o.op = .buildSlice 36 1 #[(0, x)]) (p : Int) (hx : a.eval x = .int .i64 p)
    (hk : wpList Tryz.prog ops Q rest (a.put o.dst (.slice (some ⟨w.heap.size, 0, none⟩) 1 1)) (w.alloc (.cells #[.int .i64 p] 3))) : wpList Tryz.prog ops Q (o :: rest) a w := by
  refine wpList_plain hgd fun K hK => ?_
  have e : (Instr.buildSlice 36 1 #[(0, .int .i64 p)]).run Tryz.prog w = .ok (.slice (some ⟨w.heap.size, 0, none⟩) 1 1) (w.alloc (.cells #[.int .i64 p] 3)) := by kernel_rfl
  unfold Oper.wp execOp
  simp only [ho, List.map_toArray, List.map_cons, List.map_nil, hx, e, Sem.run_bind, Result.andThen_ok, Sem.run_pure]
  exact hK _ _ hk
theorem placesOf_any (L : List Fd) (v : Value) (w : World) (hx : LX KF w v L) (hn : L.length ≤ 500) : Calls Tryz.prog 43 #[v] w fun e w' => ∃ v', e = .returned v' ∧ LX KP w' v' (L.map Fd.place) ∧ Below w.heap.size w w' := by
  obtain ⟨ao, cap, rfl⟩ := hx.form
  have HX := hide hx
  have HN := hide hn
  have B0 := hide (Below.refl w.heap.size w)
  clear hx hn
  go_enter Tryz.func43, Tryz.ntmps43
  go_wp2
  go_loopw [3, 8] (fun u i wr => ∃ k : Nat, k ≤ L.length ∧ i = .int .i64 (k : Int) ∧ Hid (OX KP wr u ((L.take k).map Fd.place) ∧ (∀ g, u.ownBlock = some g → w.heap.size ≤ g) ∧ Below w.heap.size w wr)) (fun _ i _ => (L.length - intOf i).toNat)
  case atStart => exact ⟨0, Nat.zero_le _, rfl, OX.nil _, fun g hg => (by cases hg), B0.out⟩
  case round =>
    clear B0
    obtain ⟨k, hk, rfl, J⟩ := hrel
    obtain ⟨uo, uc, eu⟩ := J.out.1.form
    by_cases hlt : k < L.length
    · have h1 : (k : Int) < (L.length : Int) := by omega
      have h2 : (0 : Int) ≤ (k : Int) := by omega
      have h5 := HN.out
      have e1 : IntKind.i64.wrap ((k : Int) + 1) = k + 1 := wrapI _ (by omega) (by omega)
      have KK := hide (And.intro (show k + 1 ≤ L.length by omega) (show ((L.length : Int) - ((k : Int) + 1)).toNat < ((L.length : Int) - (k : Int)).toNat by omega))
      obtain ⟨ga, oa, rfl⟩ := HX.out.base (by omega)
      have hr := (HX.out.below J.out.2.2).range k hlt
      have HT : Hid ((L.take (k + 1)).map Fd.place = (L.take k).map Fd.place ++ [L[k].place]) := by show _ = _; rw [← List.take_append_getElem hlt, List.map_append]; rfl
      generalize L[k] = x at *
      have RG : Hid (wr.rangeAt ga (oa + k * 2) x.cells) := hr
      have hl2 : ((L.take k).map Fd.place).length ≤ 500 := by rw [List.length_map, List.length_take]; omega
      have SZ : Hid ((((L.take k).map Fd.place).length + 1) * KP.b ≤ 140737488355328 ∧ ((L.take k).map Fd.place).length + 1 ≤ maxLen) := ⟨show (_ + 1) * 8 ≤ _ by omega, show _ ≤ 9223372036854775807 by omega⟩
      generalize (L.take k).map Fd.place = T at *
      subst eu
      have b1 : Below wr.heap.size wr (wr.alloc (.cells x.cells.toArray 77)) := (Below.refl _ _).alloc (Nat.le_refl _) _
      have R1 := hide (heap_alloc_last wr (.cells x.cells.toArray 77))
      have J1 := hide (And.intro (J.out.1.below b1) (And.intro J.out.2.1 (below_next J.out.2.2 b1)))
      clear hr hlt hk HX h5 hl2 b1 J
      go_upto_region 5 with (with_reducible refine at_list ?_; first | refine wpLoadF _ rfl ga (oa + k * 2) rfl x RG.out rfl ?_ | refine wpList_allocA AFd rfl rfl ?_ | refine wpList_store_newA AFd rfl _ _ rfl _ rfl x.cells.toArray rfl x.all rfl rfl ?_)
      generalize wr.alloc (.cells x.cells.toArray 77) = W2 at *
      generalize wr.heap.size = g5 at *
      have c0 : W2.cell? ⟨g5, 0, none⟩ = some (.int .i64 x.place) := by rw [cell_of_row _ _ _ _ _ _ R1.out]; rfl
      have b2 : Below W2.heap.size W2 (W2.alloc (.cells #[.int .i64 x.place] 3)) := (Below.refl _ _).alloc (Nat.le_refl _) _
      have J2 := hide (And.intro (J1.out.1.below b2) (And.intro J1.out.2.1 (below_next J1.out.2.2 b2)))
      have N2 := hide (one_newX (E := KP) W2 x.place)
      clear b2 J1 R1 RG
      go_wp2_with (first | (at_builtin; refine Ek.wpApp KP rfl _ _ rfl _ T rfl J2.out.1 ⟨W2.heap.size, 0, none⟩ 1 1 [x.place] rfl rfl N2.out SZ.out.1 SZ.out.2 ?_; intro v' w' ho on; have OB := hide (And.intro ho on); clear ho on) | (with_reducible refine at_list ?_; refine wpBs1P rfl _ rfl x.place rfl ?_))
      obtain ⟨ho, on⟩ := OB.out
      refine ⟨⟨k + 1, KK.out.1, by go_num, ?_, on.far J2.out.2.2.size J2.out.2.1, J2.out.2.2.trans (on.below J2.out.2.2.size J2.out.2.1)⟩, by simpa [intOf] using KK.out.2⟩
      rw [HT.out]
      exact ho
    · have h1 : ¬ (k : Int) < (L.length : Int) := by omega
      have JE : Hid (LX KP wr u3 (L.map Fd.place) ∧ Below w.heap.size w wr) := by
        have := And.intro J.out.1.read J.out.2.2
        rwa [List.take_of_length_le (by omega)] at this
      clear J hlt hk HX eu
      go_wp2
      go_ret
      exact ⟨_, rfl, JE.out.1, JE.out.2⟩
end
end Go.Proofs.YtkoidjaaojmcnaaGreat
