/- What a message's parts are read by: a thing. What a message's parts are read by: a head. What a message's parts are read by: a place. Bytes copied into the midst of a row. A row some of whose cells are written anew. -/
import Derived.Test.YtkoidjaaojmcnaaGreatM38
import Derived.Test.YtkoidjaaojmcnaaGreatM39
import Derived.BigQuiet
namespace Go.Proofs.YtkoidjaaojmcnaaGreat
open Go.RowKit
open Go.Deep
set_option linter.unusedVariables false
set_option linter.unusedSimpArgs false
theorem run_bldIa (x : Im) (w : World) : (Instr.build 73 #[(0, .int .u32 (x.kind.toNat : Int)), (1, .agg (cellsL x.hash).toArray)]).run Tryz.prog w = .ok (.agg x.cells.toArray) w := by
  obtain ⟨k, h, hh⟩ := x
  obtain ⟨_, _, _, _, _, _, _, _, _, _, _, _, _, _, _, _, _, _, _, _, _, _, _, _, _, _, _, _, _, _, _, _, rfl⟩ := id32' h hh
  kernel_rfl
def bdIa (x : Array (Nat × Value)) : Sem Value := Instr.build 73 x
theorem bdIa_eq (x : Array (Nat × Value)) : Instr.build 73 x = bdIa x := rfl
attribute [local go_sem ↓] bdIa_eq
def zIm : Im := ⟨0, zeros, zeros_len⟩
theorem Gr.setRow {w : World} {b : Nat} {t : ByteArray} {R : List UInt8} (h : Gr w b t R) (g : Nat) (hg : b ≠ g) (cs : Array Value) : Gr (w.setRow g cs) b t R := by
  obtain ⟨n, h1, h2, h3⟩ := h
  exact ⟨n, h1, h2, h3.setRow g hg cs⟩
section
variable {w : World} {b : Nat} {t : ByteArray} {Y : List UInt8}
set_option maxRecDepth 10000
set_option maxHeartbeats 4000000
theorem item_on (x : Im) (h : Gr w b t (x.bytes ++ Y)) (hs : t.size ≤ maxLen) : Calls Tryz.prog 81 #[pv b t] w fun e w' => e = .returned (.agg x.cells.toArray) ∧ Gr w' b t Y ∧ Rfr b w w' := by
  have hlt := h.lt
  have e1 := heap_alloc_last w (.cells #[.pointer (some ⟨b, 0, none⟩), .string t] 85)
  have r1 := (Below.heap_alloc _ (.cells zIm.cells.toArray 73) _ (lt_heap e1)).trans e1
  have r2 := heap_alloc_last (w.alloc (.cells #[.pointer (some ⟨b, 0, none⟩), .string t] 85)) (.cells zIm.cells.toArray 73)
  rw [show (w.alloc (.cells #[.pointer (some ⟨b, 0, none⟩), .string t] 85)).heap.size = w.heap.size + 1 by simp] at r2
  have b2 : Below w.heap.size w ((w.alloc (.cells #[.pointer (some ⟨b, 0, none⟩), .string t] 85)).alloc (.cells zIm.cells.toArray 73)) := ((Below.refl _ _).alloc (Nat.le_refl _) _).alloc (by simp) _
  have h0 := h.below b2
  have F0 := hide (Rfr.below (b := b) b2)
  unfold Im.bytes at h0
  rw [List.append_assoc] at h0
  have bn : ∀ W, (bdIa #[(0, .int .u32 (x.kind.toNat : Int)), (1, .agg (cellsL x.hash).toArray)]).run Tryz.prog W = .ok (.agg x.cells.toArray) W := fun W => run_bldIa x W
  have HU := hide (h0.u32 x.kind.toNat x.kind.toNat_lt hs)
  have HH : Hid (∀ W, Gr W b t (x.hash ++ Y) → Calls Tryz.prog 84 #[.pointer (some ⟨b, 0, none⟩)] W fun e w' => e = .returned (.agg (cellsL x.hash).toArray) ∧ Gr w' b t Y ∧ Rfr b W w') := fun W g => g.hash x.hash x.hh hs
  have c0 : ((w.alloc (.cells #[.pointer (some ⟨b, 0, none⟩), .string t] 85)).alloc (.cells zIm.cells.toArray 73)).cell? ⟨w.heap.size, 0, none⟩ = some (.pointer (some ⟨b, 0, none⟩)) := by rw [cell_of_row _ _ _ _ _ _ r1]; rfl
  have R1 := hide r1
  have R2 := hide r2
  have HLT := hide hlt
  have HSX : Hid (x.cells.toArray.size = 33) := show _ = _ from by rw [List.size_toArray, x.len]
  have HSZ : Hid (zIm.cells.toArray.size = 33) := show _ = _ from by rw [List.size_toArray, zIm.len]
  have HOX : Hid (x.cells.toArray.all (·.oneCell') = true) := x.all
  clear h hs hlt e1 r1 r2 b2 h0
  unfold pv
  go_enter Tryz.func81, Tryz.ntmps81
  go_upto_region 1 with (with_reducible refine at_list ?_; refine wpList_allocA AIm rfl rfl ?_)
  change Code.wp _ _ _ _ ((w.alloc (.cells #[.pointer (some ⟨b, 0, none⟩), .string t] 85)).alloc (.cells zIm.cells.toArray 73))
  generalize (w.alloc (.cells #[.pointer (some ⟨b, 0, none⟩), .string t] 85)).alloc (.cells zIm.cells.toArray 73) = A at *
  go_upto_region 2 with (go_at_call 82; with_reducible refine HU.out.mono ?_; rintro e W1 ⟨rfl, g1, f1⟩; have G1 := hide g1; have F1 := hide f1; clear g1 f1)
  clear HU c0
  have c1 : W1.cell? ⟨w.heap.size, 0, none⟩ = some (.pointer (some ⟨b, 0, none⟩)) := by rw [cell_of_row _ _ _ _ _ _ ((F1.out.block _ (lt_heap R1.out) (by have := HLT.out; omega)).trans R1.out)]; rfl
  have Q1 := hide ((F1.out.block _ (lt_heap R2.out) (by have := HLT.out; omega)).trans R2.out)
  go_wp2_with (first | (go_at_call 84; with_reducible refine (HH.out _ G1.out).mono ?_; rintro e W2 ⟨rfl, g1, f1⟩; have G2 := hide g1; have F2 := hide f1; have Q2 := hide ((f1.block _ (lt_heap Q1.out) (by have := HLT.out; omega)).trans Q1.out); clear g1 f1) | (with_reducible refine at_list ?_; refine wpList_storeA AIm rfl _ _ rfl (w.heap.size + 1) x.cells.toArray HSX.out HOX.out rfl rfl zIm.cells.toArray HSZ.out 73 Q2.out ?_))
  refine bodyPost_ret (resA AIm rfl _ _ _ _ x.cells.toArray HSX.out rfl (setRow_heap _ _ _ _ _ _ Q2.out)) rfl ?_
  have hlt := HLT.out
  exact ⟨rfl, G2.out.setRow _ (by omega) _, ((F0.out.trans F1.out).trans F2.out).setRow _ (by omega) _⟩
end
end Go.Proofs.YtkoidjaaojmcnaaGreat
namespace Go.Proofs.YtkoidjaaojmcnaaGreat
open Go.RowKit
open Go.Deep
set_option linter.unusedVariables false
set_option linter.unusedSimpArgs false
section
variable {w : World} {b : Nat} {t : ByteArray} {Y : List UInt8}
set_option maxRecDepth 10000
set_option maxHeartbeats 4000000
theorem head_on (x : ByteArray) (hx : x.size = 80) (h : Gr w b t (x.data.toList ++ [0] ++ Y)) (hs : t.size ≤ maxLen) : Calls Tryz.prog 86 #[pv b t] w fun e w' => e = .returned (.string x) ∧ Gr w' b t Y ∧ Rfr b w w' := by
  have hlt := h.lt
  have r1 := heap_alloc_last w (.cells #[.pointer (some ⟨b, 0, none⟩), .string t] 85)
  have b1 := (Below.refl w.heap.size w).alloc (Nat.le_refl _) (.cells #[.pointer (some ⟨b, 0, none⟩), .string t] 85)
  have h0 := h.below b1
  rw [List.append_assoc] at h0
  have F1 := hide (Rfr.below (b := b) b1)
  have c0 : (w.alloc (.cells #[.pointer (some ⟨b, 0, none⟩), .string t] 85)).cell? ⟨w.heap.size, 0, none⟩ = some (.pointer (some ⟨b, 0, none⟩)) := by rw [cell_of_row _ _ _ _ _ _ r1]; rfl
  have HB : Hid (Calls Tryz.prog 87 #[.pointer (some ⟨b, 0, none⟩), .int .i64 80] (w.alloc (.cells #[.pointer (some ⟨b, 0, none⟩), .string t] 85)) fun e w' => e = .returned (.string x) ∧ Gr w' b t ([0] ++ Y) ∧ Rfr b (w.alloc (.cells #[.pointer (some ⟨b, 0, none⟩), .string t] 85)) w') := by
    have hl : x.data.toList.length = 80 := by simpa using hx
    have := h0.bytes x.data.toList hs (by omega)
    rw [hl] at this
    exact this
  have R1 := hide r1
  have HLT := hide hlt
  have HS := hide hs
  clear h hs hlt r1 b1 h0 hx
  unfold pv
  go_enter Tryz.func86, Tryz.ntmps86
  go_upto_region 2 with (go_at_call 87; with_reducible refine HB.out.mono ?_; rintro e W1 ⟨rfl, g1, f1⟩; have G1 := hide g1; have F2 := hide f1; clear g1 f1)
  generalize w.alloc (.cells #[.pointer (some ⟨b, 0, none⟩), .string t] 85) = A at *
  have r2 := (F2.out.block _ (lt_heap R1.out) (by have := HLT.out; omega)).trans R1.out
  have c1 : W1.cell? ⟨w.heap.size, 0, none⟩ = some (.pointer (some ⟨b, 0, none⟩)) := by rw [cell_of_row _ _ _ _ _ _ r2]; rfl
  have c2 : W1.cell? ⟨w.heap.size, 1, none⟩ = some (.string t) := by rw [cell_of_row _ _ _ _ _ _ r2]; rfl
  obtain ⟨n, n1, n2, n3⟩ := G1.out
  have tk := (takeC_on t n 0 Y n1 (by decide) n2).1
  have HA : Hid (∀ W, Rst W b t (n : Int) 0 → Calls Tryz.prog 34 #[.pointer (some ⟨b, 0, none⟩)] W fun e w' => e = .returned (.int .i64 (n : Int)) ∧ w' = W) := fun W g => rAt b t W n 0 g
  have HT : Hid (∀ W, Calls Tryz.prog 116 #[.string t, .int .i64 (n : Int)] W fun e w' => e = .returned (.tuple #[.int .u64 0, .int .i64 ((n + (countL 0).length : Nat) : Int), .int .i64 0]) ∧ w' = W) := fun W => by
    have := takeCount_any t n W HS.out
    rw [tk] at this
    exact this
  generalize ((n + (countL 0).length : Nat) : Int) = nx at *
  have HN : Hid (∀ q, Rst (W1.drewN q) b t (n : Int) 0) := fun q => n3.drewN q
  have HR : Hid (Rst W1 b t (n : Int) 0) := n3
  clear n1 n2 n3 tk r2 HB c0
  go_quiet (first | (go_at_call 34; exact Calls.quiet_of_same (HA.out _ (by first | exact HR.out | exact HN.out _))) | (go_at_call 116; exact Calls.quiet_of_same (HT.out _)))
  have c3 : (W1.drewN nq).cell? ⟨w.heap.size, 0, none⟩ = some (.pointer (some ⟨b, 0, none⟩)) := c1
  have F3 := hide (F2.out.trans (Rfr.drewN b W1 nq))
  have G3 : Hid (Gr (W1.drewN nq) b t ([0] ++ Y)) := G1
  generalize W1.drewN nq = W2 at *
  have HC : Hid (Calls Tryz.prog 115 #[.pointer (some ⟨b, 0, none⟩), .int .u64 0] W2 fun e w' => e = .returned (.int .u64 0) ∧ Gr w' b t Y ∧ Rfr b W2 w') := G3.out.count 0 0 (by decide) (by decide) HS.out
  clear c1 c2 HA HT HN HR
  go_wp2_with (go_at_call 115; with_reducible refine HC.out.mono ?_; rintro e W4 ⟨rfl, g1, f1⟩; have G4 := hide g1; have F4 := hide f1; clear g1 f1)
  go_ret
  exact ⟨rfl, G4.out, (F1.out.trans F3.out).trans F4.out⟩
end
end Go.Proofs.YtkoidjaaojmcnaaGreat
namespace Go.Proofs.YtkoidjaaojmcnaaGreat
open Go.RowKit
open Go.Deep
set_option linter.unusedVariables false
set_option linter.unusedSimpArgs false
section
variable {w : World} {b : Nat} {t : ByteArray} {Y : List UInt8}
set_option maxRecDepth 10000
set_option maxHeartbeats 4000000
theorem place_on (a p : Int) (ha : -1 ≤ a) (hap : a < p) (hp : p ≤ 65535) (h : Gr w b t (gapL a p ++ Y)) (hs : t.size ≤ maxLen) : Calls Tryz.prog 93 #[pv b t, .int .i64 a] w fun e w' => e = .returned (.int .i64 p) ∧ Gr w' b t Y ∧ Rfr b w w' := by
  have hlt := h.lt
  have r1 := heap_alloc_last w (.cells #[.pointer (some ⟨b, 0, none⟩), .string t] 85)
  have b1 := (Below.refl w.heap.size w).alloc (Nat.le_refl _) (.cells #[.pointer (some ⟨b, 0, none⟩), .string t] 85)
  obtain ⟨c, hc, hg⟩ : ∃ c : Nat, p = a + 1 + (c : Int) ∧ gapL a p = countL c := ⟨(p - a - 1).toNat, by omega, rfl⟩
  rw [hg] at h
  have h0 := h.below b1
  have F1 := hide (Rfr.below (b := b) b1)
  have c1 : (w.alloc (.cells #[.pointer (some ⟨b, 0, none⟩), .string t] 85)).cell? ⟨w.heap.size, 0, none⟩ = some (.pointer (some ⟨b, 0, none⟩)) := by rw [cell_of_row _ _ _ _ _ _ r1]; rfl
  have c2 : (w.alloc (.cells #[.pointer (some ⟨b, 0, none⟩), .string t] 85)).cell? ⟨w.heap.size, 1, none⟩ = some (.string t) := by rw [cell_of_row _ _ _ _ _ _ r1]; rfl
  have HS := hide hs
  have G1 := hide h0
  have u1 : IntKind.i64.wrap (65535 - a) = 65535 - a := wrapI _ (by omega) (by omega)
  have u2 : IntKind.u64.wrap (65535 - a) = 65535 - a := wrapu _ (by omega) (by omega)
  have u3 : ¬ (c : Int) ≥ 65535 - a := by omega
  have u4 : IntKind.i64.wrap (a + 1) = a + 1 := wrapI _ (by omega) (by omega)
  have u5 : IntKind.i64.wrap (c : Int) = (c : Int) := wrapI _ (by omega) (by omega)
  have u6 : IntKind.i64.wrap (a + 1 + (c : Int)) = p := by rw [← hc]; exact wrapI _ (by omega) (by omega)
  have HCC : Hid (c ≤ 65535) := by show _ ≤ _; omega
  clear h hs hlt r1 b1 h0 hg hc ha hap hp
  unfold pv
  go_enter Tryz.func93, Tryz.ntmps93
  go_upto_region 1 with fail
  generalize w.alloc (.cells #[.pointer (some ⟨b, 0, none⟩), .string t] 85) = W1 at *
  obtain ⟨n, n1, n2, n3⟩ := G1.out
  have tk := (takeC_on t n c Y n1 HCC.out n2).1
  have HA : Hid (∀ W, Rst W b t (n : Int) 0 → Calls Tryz.prog 34 #[.pointer (some ⟨b, 0, none⟩)] W fun e w' => e = .returned (.int .i64 (n : Int)) ∧ w' = W) := fun W g => rAt b t W n 0 g
  have HT : Hid (∀ W, Calls Tryz.prog 116 #[.string t, .int .i64 (n : Int)] W fun e w' => e = .returned (.tuple #[.int .u64 (c : Int), .int .i64 ((n + (countL c).length : Nat) : Int), .int .i64 0]) ∧ w' = W) := fun W => by
    have := takeCount_any t n W HS.out
    rw [tk] at this
    exact this
  generalize ((n + (countL c).length : Nat) : Int) = nx at *
  have HN : Hid (∀ q, Rst (W1.drewN q) b t (n : Int) 0) := fun q => n3.drewN q
  have HR : Hid (Rst W1 b t (n : Int) 0) := n3
  clear n1 n2 n3 tk
  go_quiet (first | (go_at_call 34; exact Calls.quiet_of_same (HA.out _ (by first | exact HR.out | exact HN.out _))) | (go_at_call 116; exact Calls.quiet_of_same (HT.out _)))
  have c3 : (W1.drewN nq).cell? ⟨w.heap.size, 0, none⟩ = some (.pointer (some ⟨b, 0, none⟩)) := c1
  have F3 := hide (F1.out.trans (Rfr.drewN b W1 nq))
  have G3 : Hid (Gr (W1.drewN nq) b t (countL c ++ Y)) := G1
  generalize W1.drewN nq = W2 at *
  have HC : Hid (Calls Tryz.prog 115 #[.pointer (some ⟨b, 0, none⟩), .int .u64 65535] W2 fun e w' => e = .returned (.int .u64 (c : Int)) ∧ Gr w' b t Y ∧ Rfr b W2 w') := G3.out.count c 65535 HCC.out HCC.out HS.out
  clear c1 c2 HA HT HN HR
  go_wp2_with (go_at_call 115; with_reducible refine HC.out.mono ?_; rintro e W4 ⟨rfl, g1, f1⟩; have G4 := hide g1; have F4 := hide f1; clear g1 f1)
  go_ret
  exact ⟨rfl, G4.out, F3.out.trans F4.out⟩
end
end Go.Proofs.YtkoidjaaojmcnaaGreat
namespace Go.Proofs.YtkoidjaaojmcnaaGreat
open Go.RowKit
open Go.Deep
set_option linter.unusedVariables false
set_option linter.unusedSimpArgs false
theorem copy16 (w : World) (g o : Nat) (l : List UInt8) (hl : l.length = 16) (ht : w.there g o 16) :
    (Builtin.copy_ #[95, 9] 3 #[.slice (some ⟨g, o, none⟩) 16 16, .string (txt l)]).run Tryz.prog w = .ok (.int .i64 16) (w.setCells g o (cellsL l)) := by
  have hs : (txt l).size = 16 := by rw [txt_sz, hl]
  have hd : (txt l).data.toList = l := by simp [txt]
  have hle : (cellsL l).length = 16 := by rw [cellsL_len, hl]
  have hst := run_storeCells_cells (P := Tryz.prog) g o (cellsL l) 0 w (fun j hj => by simpa using (ht j (by omega)).1) (fun j hj => by simpa using (ht j (by omega)).2) (fun v hv => cellsL_one l v hv)
  have hm : Nat.min 16 16 = 16 := by decide
  have htk : List.take 16 (List.map (fun b : UInt8 => Value.int IntKind.u8 (b.toNat : Int)) l) = cellsL l := by
    rw [List.take_of_length_le (by rw [List.length_map, hl]; exact Nat.le_refl _)]
    rfl
  simp only [Nat.add_zero] at hst
  simp [Builtin.copy_, run_underlying Tryz.underlying95, Builtin.lenOf, Builtin.firstCells, hs, hm, goInt, hd]
  rw [htk, hst]
  simp [Result.andThen]
end Go.Proofs.YtkoidjaaojmcnaaGreat
namespace Go.Proofs.YtkoidjaaojmcnaaGreat
open Go.RowKit
open Go.Deep
set_option linter.unusedVariables false
set_option linter.unusedSimpArgs false
theorem row_setCells (R : List Value) (g : Nat) (t : TypeId) : ∀ (Y X A : List Value) (w : World), w.heap[g]? = some (.cells (A ++ (X ++ R)).toArray t (0, 0)) → X.length = Y.length → (w.setCells g A.length Y).heap[g]? = some (.cells (A ++ (Y ++ R)).toArray t (0, 0))
  | [], X, A, w, h, hl => by
    have : X = [] := List.length_eq_zero_iff.1 hl
    subst this
    exact h
  | v :: r, [], A, w, h, hl => by simp at hl
  | v :: r, x :: X, A, w, h, hl => by
    have h1 := heap_setCell_same w g A.length _ _ v h
    have e : (A ++ (x :: X ++ R)).toArray.setIfInBounds A.length v = ((A ++ [v]) ++ (X ++ R)).toArray := by
      rw [List.setIfInBounds_toArray]
      simp
    rw [e] at h1
    have := row_setCells R g t r X (A ++ [v]) _ h1 (by simpa using hl)
    rw [List.length_append] at this
    simp only [List.append_assoc] at this ⊢
    exact this
end Go.Proofs.YtkoidjaaojmcnaaGreat
