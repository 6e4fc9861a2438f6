/- Messages as bytes: lists. -/
import Derived.Test.YtkoidjaaojmcnaaGreatM12
namespace Go.Proofs.YtkoidjaaojmcnaaGreat
open Go.RowKit
open Go.Deep
theorem AIm : Arr 73 33 (Im.cells ⟨0, zeros, zeros_len⟩).toArray := ⟨.inr ⟨_, Tryz.underlying73⟩, by kernel_rfl, fun w => by kernel_rfl, fun w => by kernel_rfl, by rw [List.size_toArray, Im.len]⟩
theorem Im.all (x : Im) : x.cells.toArray.all (·.oneCell') = true := by
  rw [Array.all_eq_true_iff_forall_mem]
  intro v hv
  exact x.one v (List.mem_toArray.1 hv)
theorem Fd.all (x : Fd) : x.cells.toArray.all (·.oneCell') = true := by
  rw [Array.all_eq_true_iff_forall_mem]
  intro v hv
  exact x.one v (List.mem_toArray.1 hv)
theorem wpLoadI {w : World} {ops : Array Oper} {rest : List Oper} {o : Oper} {a : Act} {Q : Exit → Act → World → Prop} (x : Operand) (ho : o.op = .load 73 x) (g off : Nat) (hx : a.eval x = .pointer (some ⟨g, off, none⟩)) (y : Im) (hr : w.rangeAt g off y.cells) (hw : Region.wanted o (yielded ops a.tmps) = true)
    (h : wpList Tryz.prog ops Q rest (a.put o.dst (.agg y.cells.toArray)) w) : wpList Tryz.prog ops Q (o :: rest) a w := wpLoadX KI Tryz.underlying73 rfl x ho g off hx y hr hw h
theorem wpLoadF {w : World} {ops : Array Oper} {rest : List Oper} {o : Oper} {a : Act} {Q : Exit → Act → World → Prop} (x : Operand) (ho : o.op = .load 77 x) (g off : Nat) (hx : a.eval x = .pointer (some ⟨g, off, none⟩)) (y : Fd) (hr : w.rangeAt g off y.cells) (hw : Region.wanted o (yielded ops a.tmps) = true)
    (h : wpList Tryz.prog ops Q rest (a.put o.dst (.agg y.cells.toArray)) w) : wpList Tryz.prog ops Q (o :: rest) a w := wpLoadX KF Tryz.underlying77 rfl x ho g off hx y hr hw h
theorem flat_snoc {α β : Type} (f : α → List β) (L : List α) (k : Nat) (h : k < L.length) : (L.take (k + 1)).flatMap f = (L.take k).flatMap f ++ f L[k] := by
  rw [← List.take_append_getElem h, List.flatMap_append]
  simp
theorem flat_len {α β : Type} (f : α → List β) (c : Nat) : ∀ (L : List α), (∀ x ∈ L, (f x).length ≤ c) → (L.flatMap f).length ≤ L.length * c
  | [], _ => by simp
  | x :: r, h => by
    have h1 := h x (by simp)
    have h2 := flat_len f c r fun y hy => h y (by simp [hy])
    simp only [List.flatMap_cons, List.length_append, List.length_cons, Nat.add_mul]
    omega
section
set_option maxRecDepth 10000
set_option maxHeartbeats 4000000
theorem rawL_len (x : ByteArray) (h : x.size ≤ 4096) : (rawL x).length ≤ 4105 := by
  have h1 := countL_len x.size
  have h2 := clong_le x.size
  unfold rawL
  rw [List.length_append]
  have : x.data.toList.length = x.size := by simp
  omega
theorem putList_net (L : List Nt) (v : Value) {B w : World} {b g : Nat} {l : List UInt8} (h : Wg B w b g l) (hx : LX KN B v L) (hn : L.length ≤ 500) (hl : l.length ≤ 1000000000) : Calls Tryz.prog 46 #[pb b, v, .func (.func 47) #[] #[pb g]] w fun e w' => e = .returned (.tuple #[]) ∧ Wb B w' b (l ++ (countL L.length ++ L.flatMap Nt.full)) ∧ Wfr w w' (pb b) := by
  obtain ⟨ao, cap, rfl⟩ := hx.form
  have HX := hide hx
  have HLN : ∀ x ∈ L, (Nt.full x).length ≤ 30 := fun x _ => Nat.le_of_eq x.full_len
  have HFL : Hid (∀ k, ((L.take k).flatMap Nt.full).length ≤ 500 * 30) := fun k => by
    have h1 := flat_len Nt.full 30 (L.take k) (fun x hx => HLN x (List.mem_of_mem_take hx))
    have h2 : (L.take k).length ≤ 500 := by rw [List.length_take]; omega
    have h3 : (L.take k).length * 30 ≤ 500 * 30 := Nat.mul_le_mul_right _ h2
    omega
  have HN := hide hn
  have HL := hide hl
  have HCL : Hid ((countL L.length).length ≤ 9) := by
    have h1 := countL_len L.length
    have h2 := clong_le L.length
    show _ ≤ _
    omega
  have J0 := hide (Wx.start h.wb)
  have G0 := hide h
  have e3 : IntKind.u64.wrap (L.length : Int) = (L.length : Int) := wrapu _ (by omega) (by omega)
  have HC := hide (wCount (pb b) l L.length (by unfold U64; omega) w (by omega) h.wb.st)
  clear h hx hn hl HLN
  go_enter Tryz.func46, Tryz.ntmps46
  go_upto_region 1 with (go_at_call 57; with_reducible refine HC.out.mono ?_; rintro e W1 ⟨rfl, s1, f1⟩; have J1 := hide (J0.out.stepN s1 f1); clear s1 f1)
  go_wp2
  go_loopw [15] (fun i wr => ∃ k : Nat, k ≤ L.length ∧ i = .int .i64 (k : Int) ∧ Hid (Wx B w wr b (l ++ countL L.length ++ (L.take k).flatMap Nt.full))) (fun i _ => (L.length - intOf i).toNat)
  case atStart => exact ⟨0, Nat.zero_le _, rfl, by simpa using J1⟩
  case round =>
    clear J1 HC J0 e3
    obtain ⟨k, hk, rfl, J⟩ := hrel
    by_cases hlt : k < L.length
    · have h1 : (k : Int) < (L.length : Int) := by omega
      have h2 : (0 : Int) ≤ (k : Int) := by omega
      have h5 := HN.out
      have e1 : IntKind.i64.wrap ((k : Int) + 1) = k + 1 := wrapI _ (by omega) (by omega)
      have KK := hide (And.intro (show k + 1 ≤ L.length by omega) (show ((L.length : Int) - ((k : Int) + 1)).toNat < ((L.length : Int) - (k : Int)).toNat by omega))
      have HT := hide (flat_snoc Nt.full L k hlt)
      obtain ⟨ga, oa, rfl⟩ := HX.out.base (by omega)
      have hr := (HX.out.below J.out.wb.bel).range k hlt
      have HLB : Hid ((l ++ countL L.length ++ (L.take k).flatMap Nt.full).length ≤ 1000000000 + 9 + 500 * 30) := by
        have h6 := HFL.out k
        have h7 := HCL.out
        have h8 := HL.out
        show _ ≤ _
        rw [List.length_append, List.length_append]
        omega
      generalize L[k] = x at *
      generalize hacc : l ++ countL L.length ++ (L.take k).flatMap Nt.full = acc at *
      have HA : Hid (l ++ countL L.length ++ (L.take (k + 1)).flatMap Nt.full = acc ++ Nt.full x) := by
        show _ = _
        rw [HT.out, ← hacc, List.append_assoc, List.append_assoc, List.append_assoc]
      clear hacc HT
      have RG : Hid (wr.rangeAt ga (oa + k * 19) x.cells) := hr
      have HS : Hid ((x.cells.toArray).size = 19) := show _ = _ from by rw [List.size_toArray, x.len]
      have HO : Hid ((x.cells.toArray).all (·.oneCell') = true) := x.all
      have b1 : Below wr.heap.size wr (wr.alloc (.cells x.cells.toArray 27)) := (Below.refl _ _).alloc (Nat.le_refl _) _
      have J1 := hide (J.out.next b1)
      have R1 := hide (heap_alloc_last wr (.cells x.cells.toArray 27))
      clear hr hlt hk b1 HX h5
      go_upto_region 4 with (with_reducible refine at_list ?_; first | refine wpLoadN _ rfl ga (oa + k * 19) rfl x RG.out rfl ?_ | refine wpList_allocA AN rfl rfl ?_ | refine wpList_store_newA AN rfl _ _ rfl _ rfl x.cells.toArray HS.out HO.out rfl rfl ?_)
      generalize wr.alloc (.cells x.cells.toArray 27) = W2 at *
      generalize wr.heap.size = g7 at *
      have CE : Hid (Calls Tryz.prog 47 #[.agg x.cells.toArray, pb g] W2 fun e w' => e = .returned (.tuple #[]) ∧ Wb B w' b (acc ++ Nt.full x) ∧ Wfr W2 w' (pb b)) := el_net x (G0.out.at J1.out) (by have := HLB.out; omega)
      go_wp2_with (first | (go_at_call 47; with_reducible refine CE.out.mono ?_; rintro e W3 ⟨rfl, s1, f1⟩; have J2 := hide (J1.out.step s1 f1); clear s1 f1) | (with_reducible refine at_list ?_; refine wpList_loadS AN _ rfl g7 rfl x.cells.toArray HS.out 27 R1.out rfl ?_))
      exact ⟨⟨k + 1, KK.out.1, by go_num, by rw [HA.out]; exact J2⟩, by simpa [intOf] using KK.out.2⟩
    · have h1 : ¬ (k : Int) < (L.length : Int) := by omega
      have J9 : Hid (Wx B w wr b (l ++ (countL L.length ++ L.flatMap Nt.full))) := by
        have := J.out
        rwa [List.take_of_length_le (by omega), List.append_assoc] at this
      clear J hlt hk HX HFL
      go_wp2
      go_end0
      exact ⟨rfl, J9.out.wb, J9.out.fr⟩
theorem putList_item (L : List Im) (v : Value) {B w : World} {b g : Nat} {l : List UInt8} (h : Wg B w b g l) (hx : LX KI B v L) (hn : L.length ≤ 500) (hl : l.length ≤ 1000000000) : Calls Tryz.prog 50 #[pb b, v, .func (.func 51) #[] #[pb g]] w fun e w' => e = .returned (.tuple #[]) ∧ Wb B w' b (l ++ (countL L.length ++ L.flatMap Im.bytes)) ∧ Wfr w w' (pb b) := by
  obtain ⟨ao, cap, rfl⟩ := hx.form
  have HX := hide hx
  have HLN : ∀ x ∈ L, (Im.bytes x).length ≤ 36 := fun x _ => Nat.le_of_eq x.bytes_len
  have HFL : Hid (∀ k, ((L.take k).flatMap Im.bytes).length ≤ 500 * 36) := fun k => by
    have h1 := flat_len Im.bytes 36 (L.take k) (fun x hx => HLN x (List.mem_of_mem_take hx))
    have h2 : (L.take k).length ≤ 500 := by rw [List.length_take]; omega
    have h3 : (L.take k).length * 36 ≤ 500 * 36 := Nat.mul_le_mul_right _ h2
    omega
  have HN := hide hn
  have HL := hide hl
  have HCL : Hid ((countL L.length).length ≤ 9) := by
    have h1 := countL_len L.length
    have h2 := clong_le L.length
    show _ ≤ _
    omega
  have J0 := hide (Wx.start h.wb)
  have G0 := hide h
  have e3 : IntKind.u64.wrap (L.length : Int) = (L.length : Int) := wrapu _ (by omega) (by omega)
  have HC := hide (wCount (pb b) l L.length (by unfold U64; omega) w (by omega) h.wb.st)
  clear h hx hn hl HLN
  go_enter Tryz.func50, Tryz.ntmps50
  go_upto_region 1 with (go_at_call 57; with_reducible refine HC.out.mono ?_; rintro e W1 ⟨rfl, s1, f1⟩; have J1 := hide (J0.out.stepN s1 f1); clear s1 f1)
  go_wp2
  go_loopw [15] (fun i wr => ∃ k : Nat, k ≤ L.length ∧ i = .int .i64 (k : Int) ∧ Hid (Wx B w wr b (l ++ countL L.length ++ (L.take k).flatMap Im.bytes))) (fun i _ => (L.length - intOf i).toNat)
  case atStart => exact ⟨0, Nat.zero_le _, rfl, by simpa using J1⟩
  case round =>
    clear J1 HC J0 e3
    obtain ⟨k, hk, rfl, J⟩ := hrel
    by_cases hlt : k < L.length
    · have h1 : (k : Int) < (L.length : Int) := by omega
      have h2 : (0 : Int) ≤ (k : Int) := by omega
      have h5 := HN.out
      have e1 : IntKind.i64.wrap ((k : Int) + 1) = k + 1 := wrapI _ (by omega) (by omega)
      have KK := hide (And.intro (show k + 1 ≤ L.length by omega) (show ((L.length : Int) - ((k : Int) + 1)).toNat < ((L.length : Int) - (k : Int)).toNat by omega))
      have HT := hide (flat_snoc Im.bytes L k hlt)
      obtain ⟨ga, oa, rfl⟩ := HX.out.base (by omega)
      have hr := (HX.out.below J.out.wb.bel).range k hlt
      have HLB : Hid ((l ++ countL L.length ++ (L.take k).flatMap Im.bytes).length ≤ 1000000000 + 9 + 500 * 36) := by
        have h6 := HFL.out k
        have h7 := HCL.out
        have h8 := HL.out
        show _ ≤ _
        rw [List.length_append, List.length_append]
        omega
      generalize L[k] = x at *
      generalize hacc : l ++ countL L.length ++ (L.take k).flatMap Im.bytes = acc at *
      have HA : Hid (l ++ countL L.length ++ (L.take (k + 1)).flatMap Im.bytes = acc ++ Im.bytes x) := by
        show _ = _
        rw [HT.out, ← hacc, List.append_assoc, List.append_assoc, List.append_assoc]
      clear hacc HT
      have RG : Hid (wr.rangeAt ga (oa + k * 33) x.cells) := hr
      have HS : Hid ((x.cells.toArray).size = 33) := show _ = _ from by rw [List.size_toArray, x.len]
      have HO : Hid ((x.cells.toArray).all (·.oneCell') = true) := x.all
      have b1 : Below wr.heap.size wr (wr.alloc (.cells x.cells.toArray 73)) := (Below.refl _ _).alloc (Nat.le_refl _) _
      have J1 := hide (J.out.next b1)
      have R1 := hide (heap_alloc_last wr (.cells x.cells.toArray 73))
      clear hr hlt hk b1 HX h5
      go_upto_region 4 with (with_reducible refine at_list ?_; first | refine wpLoadI _ rfl ga (oa + k * 33) rfl x RG.out rfl ?_ | refine wpList_allocA AIm rfl rfl ?_ | refine wpList_store_newA AIm rfl _ _ rfl _ rfl x.cells.toArray HS.out HO.out rfl rfl ?_)
      generalize wr.alloc (.cells x.cells.toArray 73) = W2 at *
      generalize wr.heap.size = g7 at *
      have CE : Hid (Calls Tryz.prog 51 #[.agg x.cells.toArray, pb g] W2 fun e w' => e = .returned (.tuple #[]) ∧ Wb B w' b (acc ++ Im.bytes x) ∧ Wfr W2 w' (pb b)) := el_item x (G0.out.at J1.out) (by have := HLB.out; omega)
      go_wp2_with (first | (go_at_call 51; with_reducible refine CE.out.mono ?_; rintro e W3 ⟨rfl, s1, f1⟩; have J2 := hide (J1.out.step s1 f1); clear s1 f1) | (with_reducible refine at_list ?_; refine wpList_loadS AIm _ rfl g7 rfl x.cells.toArray HS.out 73 R1.out rfl ?_))
      exact ⟨⟨k + 1, KK.out.1, by go_num, by rw [HA.out]; exact J2⟩, by simpa [intOf] using KK.out.2⟩
    · have h1 : ¬ (k : Int) < (L.length : Int) := by omega
      have J9 : Hid (Wx B w wr b (l ++ (countL L.length ++ L.flatMap Im.bytes))) := by
        have := J.out
        rwa [List.take_of_length_le (by omega), List.append_assoc] at this
      clear J hlt hk HX HFL
      go_wp2
      go_end0
      exact ⟨rfl, J9.out.wb, J9.out.fr⟩
theorem putList_hash (L : List Id32) (v : Value) {B w : World} {b : Nat} {l : List UInt8} (h : Wb B w b l) (hx : LX KH B v L) (hn : L.length ≤ 500) (hl : l.length ≤ 1000000000) : Calls Tryz.prog 53 #[pb b, v, .func (.func 52) #[pb b] #[]] w fun e w' => e = .returned (.tuple #[]) ∧ Wb B w' b (l ++ (countL L.length ++ L.flatMap (fun x : Id32 => x.1))) ∧ Wfr w w' (pb b) := by
  obtain ⟨ao, cap, rfl⟩ := hx.form
  have HX := hide hx
  have HLN : ∀ x ∈ L, ((fun x : Id32 => x.1) x).length ≤ 32 := fun x _ => Nat.le_of_eq x.2
  have HFL : Hid (∀ k, ((L.take k).flatMap (fun x : Id32 => x.1)).length ≤ 500 * 32) := fun k => by
    have h1 := flat_len (fun x : Id32 => x.1) 32 (L.take k) (fun x hx => HLN x (List.mem_of_mem_take hx))
    have h2 : (L.take k).length ≤ 500 := by rw [List.length_take]; omega
    have h3 : (L.take k).length * 32 ≤ 500 * 32 := Nat.mul_le_mul_right _ h2
    omega
  have HN := hide hn
  have HL := hide hl
  have HCL : Hid ((countL L.length).length ≤ 9) := by
    have h1 := countL_len L.length
    have h2 := clong_le L.length
    show _ ≤ _
    omega
  have J0 := hide (Wx.start h)
  have e3 : IntKind.u64.wrap (L.length : Int) = (L.length : Int) := wrapu _ (by omega) (by omega)
  have HC := hide (wCount (pb b) l L.length (by unfold U64; omega) w (by omega) h.st)
  clear h hx hn hl HLN
  go_enter Tryz.func53, Tryz.ntmps53
  go_upto_region 1 with (go_at_call 57; with_reducible refine HC.out.mono ?_; rintro e W1 ⟨rfl, s1, f1⟩; have J1 := hide (J0.out.stepN s1 f1); clear s1 f1)
  go_wp2
  go_loopw [15] (fun i wr => ∃ k : Nat, k ≤ L.length ∧ i = .int .i64 (k : Int) ∧ Hid (Wx B w wr b (l ++ countL L.length ++ (L.take k).flatMap (fun x : Id32 => x.1)))) (fun i _ => (L.length - intOf i).toNat)
  case atStart => exact ⟨0, Nat.zero_le _, rfl, by simpa using J1⟩
  case round =>
    clear J1 HC J0 e3
    obtain ⟨k, hk, rfl, J⟩ := hrel
    by_cases hlt : k < L.length
    · have h1 : (k : Int) < (L.length : Int) := by omega
      have h2 : (0 : Int) ≤ (k : Int) := by omega
      have h5 := HN.out
      have e1 : IntKind.i64.wrap ((k : Int) + 1) = k + 1 := wrapI _ (by omega) (by omega)
      have KK := hide (And.intro (show k + 1 ≤ L.length by omega) (show ((L.length : Int) - ((k : Int) + 1)).toNat < ((L.length : Int) - (k : Int)).toNat by omega))
      have HT := hide (flat_snoc (fun x : Id32 => x.1) L k hlt)
      obtain ⟨ga, oa, rfl⟩ := HX.out.base (by omega)
      have hr := (HX.out.below J.out.wb.bel).range k hlt
      have HLB : Hid ((l ++ countL L.length ++ (L.take k).flatMap (fun x : Id32 => x.1)).length ≤ 1000000000 + 9 + 500 * 32) := by
        have h6 := HFL.out k
        have h7 := HCL.out
        have h8 := HL.out
        show _ ≤ _
        rw [List.length_append, List.length_append]
        omega
      generalize L[k] = x at *
      generalize hacc : l ++ countL L.length ++ (L.take k).flatMap (fun x : Id32 => x.1) = acc at *
      have HA : Hid (l ++ countL L.length ++ (L.take (k + 1)).flatMap (fun x : Id32 => x.1) = acc ++ (fun x : Id32 => x.1) x) := by
        show _ = _
        rw [HT.out, ← hacc, List.append_assoc, List.append_assoc, List.append_assoc]
      clear hacc HT
      have RG : Hid (wr.rangeAt ga (oa + k * 32) (cellsL x.1)) := hr
      have HS : Hid (((cellsL x.1).toArray).size = 32) := show _ = _ from by rw [List.size_toArray, cellsL_len, x.2]
      have HO : Hid (((cellsL x.1).toArray).all (·.oneCell') = true) := hc_one x.1
      have b1 : Below wr.heap.size wr (wr.alloc (.cells (cellsL x.1).toArray 32)) := (Below.refl _ _).alloc (Nat.le_refl _) _
      have J1 := hide (J.out.next b1)
      have R1 := hide (heap_alloc_last wr (.cells (cellsL x.1).toArray 32))
      clear hr hlt hk b1 HX h5
      go_upto_region 4 with (with_reducible refine at_list ?_; first | refine wpLoadH _ rfl ga (oa + k * 32) rfl x RG.out rfl ?_ | refine wpList_allocA A25 rfl rfl ?_ | refine wpList_store_newA A25 rfl _ _ rfl _ rfl (cellsL x.1).toArray HS.out HO.out rfl rfl ?_)
      generalize wr.alloc (.cells (cellsL x.1).toArray 32) = W2 at *
      generalize wr.heap.size = g7 at *
      have CE : Hid (Calls Tryz.prog 52 #[pb b, .agg (cellsL x.1).toArray] W2 fun e w' => e = .returned (.tuple #[]) ∧ Wst w' (pb b) (acc ++ (fun x : Id32 => x.1) x) ∧ Wfr W2 w' (pb b)) := wHash (pb b) acc x.1 x.2 W2 (by have := HLB.out; omega) J1.out.wb.st
      go_wp2_with (first | (go_at_call 52; with_reducible refine CE.out.mono ?_; rintro e W3 ⟨rfl, s1, f1⟩; have J2 := hide (J1.out.stepN s1 f1); clear s1 f1) | (with_reducible refine at_list ?_; refine wpList_loadS A25 _ rfl g7 rfl (cellsL x.1).toArray HS.out 32 R1.out rfl ?_))
      exact ⟨⟨k + 1, KK.out.1, by go_num, by rw [HA.out]; exact J2⟩, by simpa [intOf] using KK.out.2⟩
    · have h1 : ¬ (k : Int) < (L.length : Int) := by omega
      have J9 : Hid (Wx B w wr b (l ++ (countL L.length ++ L.flatMap (fun x : Id32 => x.1)))) := by
        have := J.out
        rwa [List.take_of_length_le (by omega), List.append_assoc] at this
      clear J hlt hk HX HFL
      go_wp2
      go_end0
      exact ⟨rfl, J9.out.wb, J9.out.fr⟩
theorem putList_head (L : List ByteArray) (v : Value) {B w : World} {b g : Nat} {l : List UInt8} (h : Wg B w b g l) (hx : LX KS B v L) (hn : L.length ≤ 500) (hl : l.length ≤ 1000000000) (hsz : ∀ x ∈ L, x.size ≤ 4096) : Calls Tryz.prog 54 #[pb b, v, .func (.func 55) #[] #[pb g]] w fun e w' => e = .returned (.tuple #[]) ∧ Wb B w' b (l ++ (countL L.length ++ L.flatMap (fun x : ByteArray => x.data.toList ++ [0]))) ∧ Wfr w w' (pb b) := by
  obtain ⟨ao, cap, rfl⟩ := hx.form
  have HX := hide hx
  have HSZ := hide hsz
  clear hsz
  have HLN : ∀ x ∈ L, ((fun x : ByteArray => x.data.toList ++ [0]) x).length ≤ 4097 := fun x hx => by have := HSZ.out x hx; simp; omega
  have HFL : Hid (∀ k, ((L.take k).flatMap (fun x : ByteArray => x.data.toList ++ [0])).length ≤ 500 * 4097) := fun k => by
    have h1 := flat_len (fun x : ByteArray => x.data.toList ++ [0]) 4097 (L.take k) (fun x hx => HLN x (List.mem_of_mem_take hx))
    have h2 : (L.take k).length ≤ 500 := by rw [List.length_take]; omega
    have h3 : (L.take k).length * 4097 ≤ 500 * 4097 := Nat.mul_le_mul_right _ h2
    omega
  have HN := hide hn
  have HL := hide hl
  have HCL : Hid ((countL L.length).length ≤ 9) := by
    have h1 := countL_len L.length
    have h2 := clong_le L.length
    show _ ≤ _
    omega
  have J0 := hide (Wx.start h.wb)
  have G0 := hide h
  have e3 : IntKind.u64.wrap (L.length : Int) = (L.length : Int) := wrapu _ (by omega) (by omega)
  have HC := hide (wCount (pb b) l L.length (by unfold U64; omega) w (by omega) h.wb.st)
  clear h hx hn hl HLN
  go_enter Tryz.func54, Tryz.ntmps54
  go_upto_region 1 with (go_at_call 57; with_reducible refine HC.out.mono ?_; rintro e W1 ⟨rfl, s1, f1⟩; have J1 := hide (J0.out.stepN s1 f1); clear s1 f1)
  go_wp2
  go_loopw [15] (fun i wr => ∃ k : Nat, k ≤ L.length ∧ i = .int .i64 (k : Int) ∧ Hid (Wx B w wr b (l ++ countL L.length ++ (L.take k).flatMap (fun x : ByteArray => x.data.toList ++ [0])))) (fun i _ => (L.length - intOf i).toNat)
  case atStart => exact ⟨0, Nat.zero_le _, rfl, by simpa using J1⟩
  case round =>
    clear J1 HC J0 e3
    obtain ⟨k, hk, rfl, J⟩ := hrel
    by_cases hlt : k < L.length
    · have h1 : (k : Int) < (L.length : Int) := by omega
      have h2 : (0 : Int) ≤ (k : Int) := by omega
      have h5 := HN.out
      have e1 : IntKind.i64.wrap ((k : Int) + 1) = k + 1 := wrapI _ (by omega) (by omega)
      have KK := hide (And.intro (show k + 1 ≤ L.length by omega) (show ((L.length : Int) - ((k : Int) + 1)).toNat < ((L.length : Int) - (k : Int)).toNat by omega))
      have HT := hide (flat_snoc (fun x : ByteArray => x.data.toList ++ [0]) L k hlt)
      obtain ⟨ga, oa, rfl⟩ := HX.out.base (by omega)
      have hr := (HX.out.below J.out.wb.bel).range k hlt
      have HLB : Hid ((l ++ countL L.length ++ (L.take k).flatMap (fun x : ByteArray => x.data.toList ++ [0])).length ≤ 1000000000 + 9 + 500 * 4097) := by
        have h6 := HFL.out k
        have h7 := HCL.out
        have h8 := HL.out
        show _ ≤ _
        rw [List.length_append, List.length_append]
        omega
      have hxs := HSZ.out L[k] (List.getElem_mem hlt)
      generalize L[k] = x at *
      generalize hacc : l ++ countL L.length ++ (L.take k).flatMap (fun x : ByteArray => x.data.toList ++ [0]) = acc at *
      have HA : Hid (l ++ countL L.length ++ (L.take (k + 1)).flatMap (fun x : ByteArray => x.data.toList ++ [0]) = acc ++ (fun x : ByteArray => x.data.toList ++ [0]) x) := by
        show _ = _
        rw [HT.out, ← hacc, List.append_assoc, List.append_assoc, List.append_assoc]
      clear hacc HT
      have c1 : wr.cell? ⟨ga, oa + k, none⟩ = some (.string x) := by
        have := hr 0 _ rfl
        simpa [KS] using this
      clear hr hlt hk HX h5
      go_upto_region 4 with fail
      have CE : Hid (Calls Tryz.prog 55 #[.string x, pb g] wr fun e w' => e = .returned (.tuple #[]) ∧ Wb B w' b (acc ++ (fun x : ByteArray => x.data.toList ++ [0]) x) ∧ Wfr wr w' (pb b)) := el_head x hxs (G0.out.at J.out) (by have := HLB.out; omega)
      go_wp2_with (first | (go_at_call 55; with_reducible refine CE.out.mono ?_; rintro e W3 ⟨rfl, s1, f1⟩; have J2 := hide (J.out.step s1 f1); clear s1 f1))
      exact ⟨⟨k + 1, KK.out.1, by go_num, by rw [HA.out]; exact J2⟩, by simpa [intOf] using KK.out.2⟩
    · have h1 : ¬ (k : Int) < (L.length : Int) := by omega
      have J9 : Hid (Wx B w wr b (l ++ (countL L.length ++ L.flatMap (fun x : ByteArray => x.data.toList ++ [0])))) := by
        have := J.out
        rwa [List.take_of_length_le (by omega), List.append_assoc] at this
      clear J hlt hk HX HFL
      go_wp2
      go_end0
      exact ⟨rfl, J9.out.wb, J9.out.fr⟩
theorem putList_raw (L : List ByteArray) (v : Value) {B w : World} {b : Nat} {l : List UInt8} (h : Wb B w b l) (hx : LX KS B v L) (hn : L.length ≤ 500) (hl : l.length ≤ 1000000000) (hsz : ∀ x ∈ L, x.size ≤ 4096) : Calls Tryz.prog 54 #[pb b, v, .func (.func 63) #[pb b] #[]] w fun e w' => e = .returned (.tuple #[]) ∧ Wb B w' b (l ++ (countL L.length ++ L.flatMap rawL)) ∧ Wfr w w' (pb b) := by
  obtain ⟨ao, cap, rfl⟩ := hx.form
  have HX := hide hx
  have HSZ := hide hsz
  clear hsz
  have HLN : ∀ x ∈ L, (rawL x).length ≤ 4105 := fun x hx => by have := HSZ.out x hx; exact rawL_len x this
  have HFL : Hid (∀ k, ((L.take k).flatMap rawL).length ≤ 500 * 4105) := fun k => by
    have h1 := flat_len rawL 4105 (L.take k) (fun x hx => HLN x (List.mem_of_mem_take hx))
    have h2 : (L.take k).length ≤ 500 := by rw [List.length_take]; omega
    have h3 : (L.take k).length * 4105 ≤ 500 * 4105 := Nat.mul_le_mul_right _ h2
    omega
  have HN := hide hn
  have HL := hide hl
  have HCL : Hid ((countL L.length).length ≤ 9) := by
    have h1 := countL_len L.length
    have h2 := clong_le L.length
    show _ ≤ _
    omega
  have J0 := hide (Wx.start h)
  have e3 : IntKind.u64.wrap (L.length : Int) = (L.length : Int) := wrapu _ (by omega) (by omega)
  have HC := hide (wCount (pb b) l L.length (by unfold U64; omega) w (by omega) h.st)
  clear h hx hn hl HLN
  go_enter Tryz.func54, Tryz.ntmps54
  go_upto_region 1 with (go_at_call 57; with_reducible refine HC.out.mono ?_; rintro e W1 ⟨rfl, s1, f1⟩; have J1 := hide (J0.out.stepN s1 f1); clear s1 f1)
  go_wp2
  go_loopw [15] (fun i wr => ∃ k : Nat, k ≤ L.length ∧ i = .int .i64 (k : Int) ∧ Hid (Wx B w wr b (l ++ countL L.length ++ (L.take k).flatMap rawL))) (fun i _ => (L.length - intOf i).toNat)
  case atStart => exact ⟨0, Nat.zero_le _, rfl, by simpa using J1⟩
  case round =>
    clear J1 HC J0 e3
    obtain ⟨k, hk, rfl, J⟩ := hrel
    by_cases hlt : k < L.length
    · have h1 : (k : Int) < (L.length : Int) := by omega
      have h2 : (0 : Int) ≤ (k : Int) := by omega
      have h5 := HN.out
      have e1 : IntKind.i64.wrap ((k : Int) + 1) = k + 1 := wrapI _ (by omega) (by omega)
      have KK := hide (And.intro (show k + 1 ≤ L.length by omega) (show ((L.length : Int) - ((k : Int) + 1)).toNat < ((L.length : Int) - (k : Int)).toNat by omega))
      have HT := hide (flat_snoc rawL L k hlt)
      obtain ⟨ga, oa, rfl⟩ := HX.out.base (by omega)
      have hr := (HX.out.below J.out.wb.bel).range k hlt
      have HLB : Hid ((l ++ countL L.length ++ (L.take k).flatMap rawL).length ≤ 1000000000 + 9 + 500 * 4105) := by
        have h6 := HFL.out k
        have h7 := HCL.out
        have h8 := HL.out
        show _ ≤ _
        rw [List.length_append, List.length_append]
        omega
      have hxs := HSZ.out L[k] (List.getElem_mem hlt)
      generalize L[k] = x at *
      generalize hacc : l ++ countL L.length ++ (L.take k).flatMap rawL = acc at *
      have HA : Hid (l ++ countL L.length ++ (L.take (k + 1)).flatMap rawL = acc ++ rawL x) := by
        show _ = _
        rw [HT.out, ← hacc, List.append_assoc, List.append_assoc, List.append_assoc]
      clear hacc HT
      have c1 : wr.cell? ⟨ga, oa + k, none⟩ = some (.string x) := by
        have := hr 0 _ rfl
        simpa [KS] using this
      clear hr hlt hk HX h5
      go_upto_region 4 with fail
      have CE : Hid (Calls Tryz.prog 63 #[pb b, .string x] wr fun e w' => e = .returned (.tuple #[]) ∧ Wst w' (pb b) (acc ++ rawL x) ∧ Wfr wr w' (pb b)) := by
        have := wString (pb b) acc x (by omega) (.inr (by omega)) wr (by have := HLB.out; omega) J.out.wb.st
        rwa [List.append_assoc] at this
      go_wp2_with (first | (go_at_call 63; with_reducible refine CE.out.mono ?_; rintro e W3 ⟨rfl, s1, f1⟩; have J2 := hide (J.out.stepN s1 f1); clear s1 f1))
      exact ⟨⟨k + 1, KK.out.1, by go_num, by rw [HA.out]; exact J2⟩, by simpa [intOf] using KK.out.2⟩
    · have h1 : ¬ (k : Int) < (L.length : Int) := by omega
      have J9 : Hid (Wx B w wr b (l ++ (countL L.length ++ L.flatMap rawL))) := by
        have := J.out
        rwa [List.take_of_length_le (by omega), List.append_assoc] at this
      clear J hlt hk HX HFL
      go_wp2
      go_end0
      exact ⟨rfl, J9.out.wb, J9.out.fr⟩
theorem putList_short (L : List UInt64) (v : Value) {B w : World} {b g : Nat} {l : List UInt8} (h : Wg B w b g l) (hx : LX KU B v L) (hn : L.length ≤ 500) (hl : l.length ≤ 1000000000) : Calls Tryz.prog 104 #[pb b, v, .func (.func 105) #[] #[pb g]] w fun e w' => e = .returned (.tuple #[]) ∧ Wb B w' b (l ++ (countL L.length ++ L.flatMap (fun x : UInt64 => lowL x.toNat 6))) ∧ Wfr w w' (pb b) := by
  obtain ⟨ao, cap, rfl⟩ := hx.form
  have HX := hide hx
  have HLN : ∀ x ∈ L, ((fun x : UInt64 => lowL x.toNat 6) x).length ≤ 6 := fun x _ => by rw [lowL_len]; exact Nat.le_refl _
  have HFL : Hid (∀ k, ((L.take k).flatMap (fun x : UInt64 => lowL x.toNat 6)).length ≤ 500 * 6) := fun k => by
    have h1 := flat_len (fun x : UInt64 => lowL x.toNat 6) 6 (L.take k) (fun x hx => HLN x (List.mem_of_mem_take hx))
    have h2 : (L.take k).length ≤ 500 := by rw [List.length_take]; omega
    have h3 : (L.take k).length * 6 ≤ 500 * 6 := Nat.mul_le_mul_right _ h2
    omega
  have HN := hide hn
  have HL := hide hl
  have HCL : Hid ((countL L.length).length ≤ 9) := by
    have h1 := countL_len L.length
    have h2 := clong_le L.length
    show _ ≤ _
    omega
  have J0 := hide (Wx.start h.wb)
  have G0 := hide h
  have e3 : IntKind.u64.wrap (L.length : Int) = (L.length : Int) := wrapu _ (by omega) (by omega)
  have HC := hide (wCount (pb b) l L.length (by unfold U64; omega) w (by omega) h.wb.st)
  clear h hx hn hl HLN
  go_enter Tryz.func104, Tryz.ntmps104
  go_upto_region 1 with (go_at_call 57; with_reducible refine HC.out.mono ?_; rintro e W1 ⟨rfl, s1, f1⟩; have J1 := hide (J0.out.stepN s1 f1); clear s1 f1)
  go_wp2
  go_loopw [15] (fun i wr => ∃ k : Nat, k ≤ L.length ∧ i = .int .i64 (k : Int) ∧ Hid (Wx B w wr b (l ++ countL L.length ++ (L.take k).flatMap (fun x : UInt64 => lowL x.toNat 6)))) (fun i _ => (L.length - intOf i).toNat)
  case atStart => exact ⟨0, Nat.zero_le _, rfl, by simpa using J1⟩
  case round =>
    clear J1 HC J0 e3
    obtain ⟨k, hk, rfl, J⟩ := hrel
    by_cases hlt : k < L.length
    · have h1 : (k : Int) < (L.length : Int) := by omega
      have h2 : (0 : Int) ≤ (k : Int) := by omega
      have h5 := HN.out
      have e1 : IntKind.i64.wrap ((k : Int) + 1) = k + 1 := wrapI _ (by omega) (by omega)
      have KK := hide (And.intro (show k + 1 ≤ L.length by omega) (show ((L.length : Int) - ((k : Int) + 1)).toNat < ((L.length : Int) - (k : Int)).toNat by omega))
      have HT := hide (flat_snoc (fun x : UInt64 => lowL x.toNat 6) L k hlt)
      obtain ⟨ga, oa, rfl⟩ := HX.out.base (by omega)
      have hr := (HX.out.below J.out.wb.bel).range k hlt
      have HLB : Hid ((l ++ countL L.length ++ (L.take k).flatMap (fun x : UInt64 => lowL x.toNat 6)).length ≤ 1000000000 + 9 + 500 * 6) := by
        have h6 := HFL.out k
        have h7 := HCL.out
        have h8 := HL.out
        show _ ≤ _
        rw [List.length_append, List.length_append]
        omega
      generalize L[k] = x at *
      generalize hacc : l ++ countL L.length ++ (L.take k).flatMap (fun x : UInt64 => lowL x.toNat 6) = acc at *
      have HA : Hid (l ++ countL L.length ++ (L.take (k + 1)).flatMap (fun x : UInt64 => lowL x.toNat 6) = acc ++ (fun x : UInt64 => lowL x.toNat 6) x) := by
        show _ = _
        rw [HT.out, ← hacc, List.append_assoc, List.append_assoc, List.append_assoc]
      clear hacc HT
      have c1 : wr.cell? ⟨ga, oa + k, none⟩ = some (.int .u64 (x.toNat : Int)) := by
        have := hr 0 _ rfl
        simpa [KU] using this
      clear hr hlt hk HX h5
      go_upto_region 4 with fail
      have CE : Hid (Calls Tryz.prog 105 #[.int .u64 (x.toNat : Int), pb g] wr fun e w' => e = .returned (.tuple #[]) ∧ Wb B w' b (acc ++ (fun x : UInt64 => lowL x.toNat 6) x) ∧ Wfr wr w' (pb b)) := el_short x (G0.out.at J.out) (by have := HLB.out; omega)
      go_wp2_with (first | (go_at_call 105; with_reducible refine CE.out.mono ?_; rintro e W3 ⟨rfl, s1, f1⟩; have J2 := hide (J.out.step s1 f1); clear s1 f1))
      exact ⟨⟨k + 1, KK.out.1, by go_num, by rw [HA.out]; exact J2⟩, by simpa [intOf] using KK.out.2⟩
    · have h1 : ¬ (k : Int) < (L.length : Int) := by omega
      have J9 : Hid (Wx B w wr b (l ++ (countL L.length ++ L.flatMap (fun x : UInt64 => lowL x.toNat 6)))) := by
        have := J.out
        rwa [List.take_of_length_le (by omega), List.append_assoc] at this
      clear J hlt hk HX HFL
      go_wp2
      go_end0
      exact ⟨rfl, J9.out.wb, J9.out.fr⟩
/-- The place that stands last. -/
def lastP (a : Int) (L : List Int) : Int := (a :: L).getLast (by simp)
theorem gapsL_app (A : List Int) : ∀ (a p : Int), gapsL a (A ++ [p]) = gapsL a A ++ gapL (lastP a A) p := by
  induction A with
  | nil => intro a p; simp [gapsL, lastP]
  | cons x r ih => intro a p; simp only [List.cons_append, gapsL, ih x p, List.append_assoc, lastP, List.getLast_cons_cons]
theorem fillL_app (A : List Fd) : ∀ (a : Int) (x : Fd), fillL a (A ++ [x]) = fillL a A ++ (gapL (lastP a (A.map Fd.place)) x.place ++ rawL x.raw) := by
  induction A with
  | nil => intro a x; simp [fillL, lastP]
  | cons y r ih => intro a x; simp only [List.cons_append, fillL, ih y.place x, List.append_assoc, lastP, List.map_cons, List.getLast_cons_cons]
theorem lastP_app (a : Int) (A : List Int) (p : Int) : lastP a (A ++ [p]) = p := by
  have h : (a :: (A ++ [p])).getLast? = some p := by rw [← List.cons_append, List.getLast?_concat]
  unfold lastP
  rw [List.getLast?_eq_some_getLast (by simp)] at h
  exact Option.some.inj h
theorem rise_at (L : List Int) : ∀ (a : Int), riseP a L → ∀ k (h : k < L.length), lastP a (L.take k) < L[k] ∧ L[k] ≤ 65535 ∧ a ≤ lastP a (L.take k) := by
  induction L with
  | nil => intro a _ k h; simp at h
  | cons x r ih =>
    intro a hr k h
    obtain ⟨h1, h2, h3⟩ := hr
    rcases k with _ | k
    · simp [lastP]; omega
    · have := ih x h3 k (by simpa using h)
      simp only [List.take_succ_cons, lastP, List.getLast_cons_cons, List.getElem_cons_succ] at this ⊢
      omega
theorem gapsL_len (L : List Int) : ∀ a, (gapsL a L).length ≤ L.length * 9 := by
  induction L with
  | nil => intro a; simp [gapsL]
  | cons x r ih => intro a; have h1 := gapL_len a x; have h2 := ih x; simp only [gapsL, List.length_append, List.length_cons, Nat.add_mul]; omega
theorem fillL_len (L : List Fd) : ∀ a, (∀ x ∈ L, x.raw.size ≤ 4096) → (fillL a L).length ≤ L.length * 4114 := by
  induction L with
  | nil => intro a _; simp [fillL]
  | cons x r ih =>
    intro a h
    have h1 := gapL_len a x.place
    have h2 := ih x.place fun y hy => h y (by simp [hy])
    have h3 := rawL_len x.raw (h x (by simp))
    simp only [fillL, List.length_append, List.length_cons, Nat.add_mul]
    omega
theorem putList_place (L : List Int) (v : Value) {B w : World} {b g ga : Nat} {l : List UInt8} (h : Wh B w b g ga l (-1)) (hx : LX KP B v L) (hn : L.length ≤ 500) (hl : l.length ≤ 1000000000) (hrise : riseP (-1) L) : Calls Tryz.prog 60 #[pb b, v, .func (.func 61) #[] #[pb g, pb ga]] w fun e w' => e = .returned (.tuple #[]) ∧ Wb B w' b (l ++ (countL L.length ++ gapsL (-1) L)) ∧ Wfa w w' b ga := by
  obtain ⟨ao, cap, rfl⟩ := hx.form
  have HX := hide hx
  have HR := hide hrise
  have HFL : Hid (∀ k, (gapsL (-1) (L.take k)).length ≤ 500 * 9) := fun k => by
    have h1 := gapsL_len (L.take k) (-1)
    have h2 : (L.take k).length ≤ 500 := by rw [List.length_take]; omega
    have h3 : (L.take k).length * 9 ≤ 500 * 9 := Nat.mul_le_mul_right _ h2
    omega
  have HN := hide hn
  have HL := hide hl
  have HCL : Hid ((countL L.length).length ≤ 9) := by
    have h1 := countL_len L.length
    have h2 := clong_le L.length
    show _ ≤ _
    omega
  have J0 := hide h
  have e3 : IntKind.u64.wrap (L.length : Int) = (L.length : Int) := wrapu _ (by omega) (by omega)
  have HC := hide (wCount (pb b) l L.length (by unfold U64; omega) w (by omega) h.wg.wb.st)
  clear h hx hn hl hrise
  go_enter Tryz.func60, Tryz.ntmps60
  go_upto_region 1 with (go_at_call 57; with_reducible refine HC.out.mono ?_; rintro e W1 ⟨rfl, s1, f1⟩; have J1 := hide (And.intro (J0.out.stepN s1 f1) (Wfa.of (ga := ga) f1)); clear s1 f1)
  go_wp2
  go_loopw [15] (fun i wr => ∃ k : Nat, k ≤ L.length ∧ i = .int .i64 (k : Int) ∧ Hid (Wh B wr b g ga (l ++ countL L.length ++ gapsL (-1) (L.take k)) (lastP (-1) (L.take k)) ∧ Wfa w wr b ga)) (fun i _ => (L.length - intOf i).toNat)
  case atStart => exact ⟨0, Nat.zero_le _, rfl, by simpa [gapsL, lastP] using J1⟩
  case round =>
    clear J1 HC J0 e3
    obtain ⟨k, hk, rfl, J⟩ := hrel
    by_cases hlt : k < L.length
    · have h1 : (k : Int) < (L.length : Int) := by omega
      have h2 : (0 : Int) ≤ (k : Int) := by omega
      have h5 := HN.out
      have e1 : IntKind.i64.wrap ((k : Int) + 1) = k + 1 := wrapI _ (by omega) (by omega)
      have KK := hide (And.intro (show k + 1 ≤ L.length by omega) (show ((L.length : Int) - ((k : Int) + 1)).toNat < ((L.length : Int) - (k : Int)).toNat by omega))
      have HT := hide (gapsL_app (L.take k) (-1) L[k])
      have HP := hide (lastP_app (-1) (L.take k) L[k])
      rw [List.take_append_getElem hlt] at HT
      rw [List.take_append_getElem hlt] at HP
      have hra := rise_at L (-1) HR.out k hlt
      obtain ⟨gq, oa, rfl⟩ := HX.out.base (by omega)
      have hr := (HX.out.below J.out.1.wg.wb.bel).range k hlt
      have HLB : Hid ((l ++ countL L.length ++ gapsL (-1) (L.take k)).length ≤ 1000000000 + 9 + 500 * 9) := by
        have h6 := HFL.out k
        have h7 := HCL.out
        have h8 := HL.out
        show _ ≤ _
        rw [List.length_append, List.length_append]
        omega
      generalize L[k] = x at *
      generalize lastP (-1) (L.take k) = a at *
      generalize hacc : l ++ countL L.length ++ gapsL (-1) (L.take k) = acc at *
      have HA : Hid (l ++ countL L.length ++ gapsL (-1) (L.take (k + 1)) = acc ++ gapL a x) := by
        show _ = _
        rw [HT.out, ← hacc]
        simp only [List.append_assoc]
      clear hacc HT
      have c1 : wr.cell? ⟨gq, oa + k, none⟩ = some (.int .i64 x) := by
        have := hr 0 _ rfl
        simpa [KP] using this
      clear hr hlt hk HX h5
      go_upto_region 4 with fail
      have CE : Hid (Calls Tryz.prog 61 #[.int .i64 x, pb g, pb ga] wr fun e w' => e = .returned (.tuple #[]) ∧ Wh B w' b g ga (acc ++ gapL a x) x ∧ Wfa wr w' b ga) := el_place x (by omega) (by omega) (by omega) J.out.1 (by have := HLB.out; omega)
      clear hra
      go_wp2_with (first | (go_at_call 61; with_reducible refine CE.out.mono ?_; rintro e W3 ⟨rfl, s1, f1⟩; have J2 := hide (And.intro s1 (J.out.2.trans f1)); clear s1 f1))
      exact ⟨⟨k + 1, KK.out.1, by go_num, by rw [HA.out, HP.out]; exact J2⟩, by simpa [intOf] using KK.out.2⟩
    · have h1 : ¬ (k : Int) < (L.length : Int) := by omega
      have J9 : Hid (Wb B wr b (l ++ (countL L.length ++ gapsL (-1) L)) ∧ Wfa w wr b ga) := by
        have := And.intro J.out.1.wg.wb J.out.2
        rwa [List.take_of_length_le (by omega), List.append_assoc] at this
      clear J hlt hk HX HFL
      go_wp2
      go_end0
      exact ⟨rfl, J9.out.1, J9.out.2⟩
theorem putList_filled (L : List Fd) (v : Value) {B w : World} {b g ga : Nat} {l : List UInt8} (h : Wh B w b g ga l (-1)) (hx : LX KF B v L) (hn : L.length ≤ 500) (hl : l.length ≤ 1000000000) (hrise : riseP (-1) (L.map Fd.place)) (hsz : ∀ x ∈ L, x.raw.size ≤ 4096) : Calls Tryz.prog 107 #[pb b, v, .func (.func 108) #[] #[pb g, pb ga]] w fun e w' => e = .returned (.tuple #[]) ∧ Wb B w' b (l ++ (countL L.length ++ fillL (-1) L)) ∧ Wfa w w' b ga := by
  obtain ⟨ao, cap, rfl⟩ := hx.form
  have HX := hide hx
  have HR := hide hrise
  have HSZ := hide hsz
  have HFL : Hid (∀ k, (fillL (-1) (L.take k)).length ≤ 500 * 4114) := fun k => by
    have h1 := fillL_len (L.take k) (-1) (fun x hx => hsz x (List.mem_of_mem_take hx))
    have h2 : (L.take k).length ≤ 500 := by rw [List.length_take]; omega
    have h3 : (L.take k).length * 4114 ≤ 500 * 4114 := Nat.mul_le_mul_right _ h2
    omega
  have HN := hide hn
  have HL := hide hl
  have HCL : Hid ((countL L.length).length ≤ 9) := by
    have h1 := countL_len L.length
    have h2 := clong_le L.length
    show _ ≤ _
    omega
  have J0 := hide h
  have e3 : IntKind.u64.wrap (L.length : Int) = (L.length : Int) := wrapu _ (by omega) (by omega)
  have HC := hide (wCount (pb b) l L.length (by unfold U64; omega) w (by omega) h.wg.wb.st)
  clear h hx hn hl hrise hsz
  go_enter Tryz.func107, Tryz.ntmps107
  go_upto_region 1 with (go_at_call 57; with_reducible refine HC.out.mono ?_; rintro e W1 ⟨rfl, s1, f1⟩; have J1 := hide (And.intro (J0.out.stepN s1 f1) (Wfa.of (ga := ga) f1)); clear s1 f1)
  go_wp2
  go_loopw [15] (fun i wr => ∃ k : Nat, k ≤ L.length ∧ i = .int .i64 (k : Int) ∧ Hid (Wh B wr b g ga (l ++ countL L.length ++ fillL (-1) (L.take k)) (lastP (-1) ((L.take k).map Fd.place)) ∧ Wfa w wr b ga)) (fun i _ => (L.length - intOf i).toNat)
  case atStart => exact ⟨0, Nat.zero_le _, rfl, by simpa [fillL, lastP] using J1⟩
  case round =>
    clear J1 HC J0 e3
    obtain ⟨k, hk, rfl, J⟩ := hrel
    by_cases hlt : k < L.length
    · have h1 : (k : Int) < (L.length : Int) := by omega
      have h2 : (0 : Int) ≤ (k : Int) := by omega
      have h5 := HN.out
      have e1 : IntKind.i64.wrap ((k : Int) + 1) = k + 1 := wrapI _ (by omega) (by omega)
      have KK := hide (And.intro (show k + 1 ≤ L.length by omega) (show ((L.length : Int) - ((k : Int) + 1)).toNat < ((L.length : Int) - (k : Int)).toNat by omega))
      have HT := hide (fillL_app (L.take k) (-1) L[k])
      have HP := hide (lastP_app (-1) ((L.take k).map Fd.place) L[k].place)
      rw [List.take_append_getElem hlt] at HT
      rw [show [L[k].place] = [L[k]].map Fd.place from rfl, ← List.map_append, List.take_append_getElem hlt] at HP
      have hra := rise_at (L.map Fd.place) (-1) HR.out k (by simpa using hlt)
      rw [List.getElem_map, ← List.map_take] at hra
      have hxs := HSZ.out L[k] (List.getElem_mem hlt)
      obtain ⟨gq, oa, rfl⟩ := HX.out.base (by omega)
      have hr := (HX.out.below J.out.1.wg.wb.bel).range k hlt
      have HLB : Hid ((l ++ countL L.length ++ fillL (-1) (L.take k)).length ≤ 1000000000 + 9 + 500 * 4114) := by
        have h6 := HFL.out k
        have h7 := HCL.out
        have h8 := HL.out
        show _ ≤ _
        rw [List.length_append, List.length_append]
        omega
      generalize L[k] = x at *
      generalize lastP (-1) ((L.take k).map Fd.place) = a at *
      generalize hacc : l ++ countL L.length ++ fillL (-1) (L.take k) = acc at *
      have HA : Hid (l ++ countL L.length ++ fillL (-1) (L.take (k + 1)) = acc ++ (gapL a x.place ++ rawL x.raw)) := by
        show _ = _
        rw [HT.out, ← hacc]
        simp only [List.append_assoc]
      clear hacc HT
      have RG : Hid (wr.rangeAt gq (oa + k * 2) x.cells) := hr
      have HS : Hid ((x.cells.toArray).size = 2) := rfl
      have HO : Hid ((x.cells.toArray).all (·.oneCell') = true) := x.all
      have b1 : Below wr.heap.size wr (wr.alloc (.cells x.cells.toArray 77)) := (Below.refl _ _).alloc (Nat.le_refl _) _
      have J1 := hide (And.intro (J.out.1.next b1) (J.out.2.trans (Wfa.of (ga := ga) (Wfr.of_below J.out.1.wg.wb.st b1))))
      have R1 := hide (heap_alloc_last wr (.cells x.cells.toArray 77))
      clear hr hlt hk b1 HX h5
      go_upto_region 4 with (with_reducible refine at_list ?_; first | refine wpLoadF _ rfl gq (oa + k * 2) rfl x RG.out rfl ?_ | refine wpList_allocA AFd rfl rfl ?_ | refine wpList_store_newA AFd rfl _ _ rfl _ rfl x.cells.toArray HS.out HO.out rfl rfl ?_)
      generalize wr.alloc (.cells x.cells.toArray 77) = W2 at *
      generalize wr.heap.size = g7 at *
      have CE : Hid (Calls Tryz.prog 108 #[.agg x.cells.toArray, pb g, pb ga] W2 fun e w' => e = .returned (.tuple #[]) ∧ Wh B w' b g ga (acc ++ (gapL a x.place ++ rawL x.raw)) x.place ∧ Wfa W2 w' b ga) := el_filled x hxs (by omega) (by omega) (by omega) J1.out.1 (by have := HLB.out; omega)
      clear hra
      go_wp2_with (first | (go_at_call 108; with_reducible refine CE.out.mono ?_; rintro e W3 ⟨rfl, s1, f1⟩; have J2 := hide (And.intro s1 (J1.out.2.trans f1)); clear s1 f1) | (with_reducible refine at_list ?_; refine wpList_loadS AFd _ rfl g7 rfl x.cells.toArray HS.out 77 R1.out rfl ?_))
      exact ⟨⟨k + 1, KK.out.1, by go_num, by rw [HA.out, HP.out]; exact J2⟩, by simpa [intOf] using KK.out.2⟩
    · have h1 : ¬ (k : Int) < (L.length : Int) := by omega
      have J9 : Hid (Wb B wr b (l ++ (countL L.length ++ fillL (-1) L)) ∧ Wfa w wr b ga) := by
        have := And.intro J.out.1.wg.wb J.out.2
        rwa [List.take_of_length_le (by omega), List.append_assoc] at this
      clear J hlt hk HX HFL
      go_wp2
      go_end0
      exact ⟨rfl, J9.out.1, J9.out.2⟩
end
end Go.Proofs.YtkoidjaaojmcnaaGreat
