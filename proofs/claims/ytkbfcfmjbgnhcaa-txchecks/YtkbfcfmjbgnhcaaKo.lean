/- When two points, inputs, outputs are the same; slices.Equal of lists of such: its contracts. -/
import Derived.Test.YtkbfcfmjbgnhcaaKc
namespace Go.Proofs.Ytkbfcfmjbgnhcaa
open Go.RowKit
open Go.Deep
set_option linter.unusedVariables false
theorem qLoadX {α : Type} (E : Ek α) {kd : TypeDesc} (hu : Try.prog.underlying E.e = some kd) (hkd : kd.isRow = true) {C : World → Prop} {a : Act} {o : Oper} {K : Act → Prop} (x : Operand) (ho : o.op = .load E.e x) (g off : Nat) (hx : a.eval x = .pointer (some ⟨g, off, none⟩)) (y : α) (hr : ∀ W, C W → W.rangeAt g off (E.enc y))
    (hk : K (a.put o.dst (.agg (E.enc y).toArray))) : o.quiet Try.prog a C K := by
  refine ⟨.agg (E.enc y).toArray, fun W hC => ?_, hk⟩
  unfold Oper.quietAt execOp
  simp only [ho, hx, Sem.run_bind, E.load y hu hkd (hr W hC), Result.andThen_ok, Sem.run_pure]
  exact ⟨rfl, rfl⟩
theorem quiet_neqX {C : World → Prop} {a : Act} {o : Oper} {K : Act → Prop} (t : TypeId) (x y : Operand) (t2 : TypeId) (ho : o.op = .binOp .neq t x y t2) (c d : Array Value) (hx : a.eval x = .agg c) (hy : a.eval y = .agg d) (hg : Try.prog.eqGuardType Try.prog.depth t = false)
    (v : Bool) (hr : ∀ W, (Op.equalIn 10000 t (.agg c) (.agg d)).run Try.prog W = .ok v W) (hk : K (a.put o.dst (.bool !v))) : o.quiet Try.prog a C K := by
  refine ⟨.bool !v, fun W _ => ?_, hk⟩
  unfold Oper.quietAt execOp
  simp only [ho, hx, hy, Sem.run_bind, run_eqGuard_agg (P := Try.prog) W .neq t x y c d hg, run_neq_struct, hr W, Result.andThen_ok, Sem.run_pure]
  exact ⟨rfl, rfl⟩
theorem LX.cellX {α : Type} {E : Ek α} {w : World} {g off n cap : Nat} {L : List α} (h : LX E w (.slice (some ⟨g, off, none⟩) n cap) L) (i : Nat) (hi : i < L.length) {v : Value} (he : E.enc L[i] = [v]) (hk : E.k = 1) : w.cell? ⟨g, off + i, none⟩ = some v := by
  have := h.range i hi
  rw [he, hk, Nat.mul_one] at this
  exact this 0 v rfl
/-- A point. -/
structure Tp where
  hash : List UInt8
  idx : UInt32
  hh : hash.length = 32
  deriving DecidableEq
def Tp.cells (x : Tp) : List Value := cellsL x.hash ++ [.int .u32 (x.idx.toNat : Int)]
theorem Tp.len (x : Tp) : x.cells.length = 33 := by simp [Tp.cells, cellsL_len, x.hh]
theorem Tp.one (x : Tp) : ∀ v ∈ x.cells, v.oneCell' = true := fun v hv => by
  simp only [Tp.cells, List.mem_cons, List.mem_append, List.not_mem_nil, or_false] at hv
  rcases hv with h | rfl
  · exact cellsL_one _ v h
  · rfl
def Ti.pt (x : Ti) : Tp := ⟨x.hash, x.idx, x.hh⟩
theorem Tp.hash_at (x : Tp) : x.cells.toArray.extract 0 (0 + 32) = (cellsL x.hash).toArray := by
  have h : (cellsL x.hash).length = 32 := by rw [cellsL_len, x.hh]
  simp only [Tp.cells, List.extract_toArray, List.extract]
  simp [h]
theorem Tp.idx_at (x : Tp) : x.cells.toArray[32]? = some (.int .u32 (x.idx.toNat : Int)) := by
  have h : (cellsL x.hash).length = 32 := by rw [cellsL_len, x.hh]
  rw [List.getElem?_toArray, Tp.cells, List.getElem?_append_right (by omega), h]; rfl
theorem Ti.hash_at (x : Ti) : x.cells.toArray.extract 0 (0 + 32) = (cellsL x.hash).toArray := by
  have h : (cellsL x.hash).length = 32 := by rw [cellsL_len, x.hh]
  simp only [Ti.cells, List.extract_toArray, List.extract]
  simp [h]
theorem Ti.pt_at (x : Ti) : x.cells.toArray.extract 0 (0 + 33) = x.pt.cells.toArray := by
  have h : (cellsL x.hash).length = 32 := by rw [cellsL_len, x.hh]
  simp only [Ti.cells, Tp.cells, Ti.pt, List.extract_toArray, List.extract]
  simp
  rw [show 33 = (cellsL x.hash).length + 1 by omega, List.take_length_add_append]
  rfl
/-- A type's fields are those of a point. -/
structure FP (t : TypeId) : Prop where
  ex : ∃ f0 f1, Try.prog.underlying t = some (.struct #[f0, f1]) ∧ (f0.name ≠ "_" ∧ f1.name ≠ "_") ∧ (f0.offset = 0 ∧ f1.offset = 32) ∧
    Try.prog.underlying f0.type = some (.array 32 5) ∧ Try.prog.underlying f1.type = some (.int .u32) ∧ (∀ W, (sizeOf f0.type).run Try.prog W = .ok 32 W)
  st : Try.prog.stoodInHeld t = false
theorem fp_api : FP 46 := ⟨⟨_, _, Try.underlying46, ⟨by decide, by decide⟩, ⟨rfl, rfl⟩, Try.underlying44, Try.underlying22, fun W => by kernel_rfl⟩, by kernel_rfl⟩
theorem Tp.same (x y : Tp) : ((x.hash == y.hash) && (((x.idx.toNat : Int) == (y.idx.toNat : Int)) && true)) = decide (x = y) := by
  rw [Bool.eq_iff_iff]
  simp only [Bool.and_eq_true, beq_iff_eq, decide_eq_true_eq, and_true]
  constructor
  · rintro ⟨h0, h1⟩
    obtain ⟨a, b, _⟩ := x
    obtain ⟨a', b', _⟩ := y
    simp only at h0 h1
    subst h0
    have e0 : b = b' := UInt32.toNat_inj.1 (by omega)
    subst e0
    rfl
  · rintro rfl
    exact ⟨rfl, rfl⟩
theorem eqPt {t : TypeId} (F : FP t) (d : Nat) (x y : Tp) (W : World) : (Op.equalIn (d + 3) t (.agg x.cells.toArray) (.agg y.cells.toArray)).run Try.prog W = .ok (decide (x = y)) W := by
  obtain ⟨⟨f0, f1, hu, ⟨n0, n1⟩, ⟨o0, o1⟩, u0, u1, s0⟩, st⟩ := F
  have hf : Try.prog.fieldsOf t = #[f0, f1] := by simp [Program.fieldsOf, hu]
  refine (run_equalIn_struct W (d + 2) t _ _ (by rw [hf]; exact hu) st).trans ?_
  rw [hf]
  have e1 := eqF_cons (W := W) (d := d + 2) (xs := x.cells.toArray) (ys := y.cells.toArray) n1 (part_cell u1 rfl (by rw [o1]; exact x.idx_at)) (part_cell u1 rfl (by rw [o1]; exact y.idx_at)) (run_equalIn_int W (d + 1) f1.type .u32 .u32 _ _ u1) (fs := []) (r2 := true) rfl
  have e0 := eqF_cons (W := W) (d := d + 2) (xs := x.cells.toArray) (ys := y.cells.toArray) n0 (part_row u0 rfl (s0 W) (by rw [o0]; exact x.hash_at)) (part_row u0 rfl (s0 W) (by rw [o0]; exact y.hash_at)) (eqC_bytes x.hash y.hash 32 x.hh y.hh f0.type u0 d W) e1
  rw [Tp.same] at e0
  exact e0
theorem Ti.same (x y : Ti) : (decide (x.pt = y.pt) && ((x.key.toList == y.key.toList) && (((x.seq.toNat : Int) == (y.seq.toNat : Int)) && true))) = decide (x = y) := by
  rw [bytes_same, Bool.eq_iff_iff]
  simp only [Bool.and_eq_true, beq_iff_eq, decide_eq_true_eq, and_true]
  constructor
  · rintro ⟨h0, h1, h2⟩
    obtain ⟨a, b, c, d, _⟩ := x
    obtain ⟨a', b', c', d', _⟩ := y
    simp only [Ti.pt, Tp.mk.injEq] at h0 h1 h2
    obtain ⟨h3, h4⟩ := h0
    subst h1 h3 h4
    have e0 : d = d' := UInt32.toNat_inj.1 (by omega)
    subst e0
    rfl
  · rintro rfl
    exact ⟨rfl, rfl, rfl⟩
/-- .. of an input, the point in one. -/
theorem eqTi (x y : Ti) (W : World) : (Op.equalIn 10000 48 (.agg x.cells.toArray) (.agg y.cells.toArray)).run Try.prog W = .ok (decide (x = y)) W := by
  obtain ⟨f0, f1, f2, hu, ⟨n0, n1, n2⟩, ⟨o0, o1, o2⟩, ⟨u0, u0t⟩, u1, u2, s0⟩ : ∃ f0 f1 f2, Try.prog.underlying 48 = some (.struct #[f0, f1, f2]) ∧ (f0.name ≠ "_" ∧ f1.name ≠ "_" ∧ f2.name ≠ "_") ∧ (f0.offset = 0 ∧ f1.offset = 33 ∧ f2.offset = 34) ∧ ((∃ fs, Try.prog.underlying f0.type = some (.struct fs)) ∧ f0.type = 46) ∧ Try.prog.underlying f1.type = some .string ∧ Try.prog.underlying f2.type = some (.int .u32) ∧ (∀ W, (sizeOf f0.type).run Try.prog W = .ok 33 W) :=
    ⟨_, _, _, Try.underlying48, ⟨by decide, by decide, by decide⟩, ⟨rfl, rfl, rfl⟩, ⟨⟨_, Try.underlying46⟩, rfl⟩, Try.underlying9, Try.underlying22, fun W => by kernel_rfl⟩
  obtain ⟨fs, u0⟩ := u0
  have st : Try.prog.stoodInHeld 48 = false := by kernel_rfl
  have hf : Try.prog.fieldsOf 48 = #[f0, f1, f2] := by simp [Program.fieldsOf, hu]
  refine (run_equalIn_struct W 9999 48 _ _ (by rw [hf]; exact hu) st).trans ?_
  rw [hf]
  have e2 := eqF_cons (W := W) (d := 9999) (xs := x.cells.toArray) (ys := y.cells.toArray) n2 (part_cell u2 rfl (by rw [o2]; exact x.at34)) (part_cell u2 rfl (by rw [o2]; exact y.at34)) (run_equalIn_int W 9998 f2.type .u32 .u32 _ _ u2) (fs := []) (r2 := true) rfl
  have e1 := eqF_cons (W := W) (d := 9999) (xs := x.cells.toArray) (ys := y.cells.toArray) n1 (part_cell u1 rfl (by rw [o1]; exact x.at33)) (part_cell u1 rfl (by rw [o1]; exact y.at33)) (run_equalIn_string W 9998 f1.type x.key y.key u1) e2
  have hp : (Op.equalIn 9999 f0.type (.agg x.pt.cells.toArray) (.agg y.pt.cells.toArray)).run Try.prog W = .ok (decide (x.pt = y.pt)) W := by rw [u0t]; exact eqPt fp_api 9996 x.pt y.pt W
  have e0 := eqF_cons (W := W) (d := 9999) (xs := x.cells.toArray) (ys := y.cells.toArray) n0 (part_row (c := x.pt.cells.toArray) u0 rfl (s0 W) (by rw [o0]; exact x.pt_at)) (part_row (c := y.pt.cells.toArray) u0 rfl (s0 W) (by rw [o0]; exact y.pt_at)) hp e1
  rw [Ti.same] at e0
  exact e0
theorem Ti.sameR (x y : Ti) : ((x.hash == y.hash) && (((x.idx.toNat : Int) == (y.idx.toNat : Int)) && ((x.key.toList == y.key.toList) && (((x.seq.toNat : Int) == (y.seq.toNat : Int)) && true)))) = decide (x = y) := by
  have h := Tp.same x.pt y.pt
  have h2 := Ti.same x y
  rw [← h] at h2
  rw [← h2]
  simp only [Ti.pt, Bool.and_true, Bool.and_assoc]
/-- .. of the document's input. -/
theorem eqTr (x y : Ti) (W : World) : (Op.equalIn 10000 50 (.agg x.cells.toArray) (.agg y.cells.toArray)).run Try.prog W = .ok (decide (x = y)) W := by
  obtain ⟨f0, f1, f2, f3, hu, ⟨n0, n1, n2, n3⟩, ⟨o0, o1, o2, o3⟩, u0, u1, u2, u3, s0⟩ : ∃ f0 f1 f2 f3, Try.prog.underlying 50 = some (.struct #[f0, f1, f2, f3]) ∧ (f0.name ≠ "_" ∧ f1.name ≠ "_" ∧ f2.name ≠ "_" ∧ f3.name ≠ "_") ∧ (f0.offset = 0 ∧ f1.offset = 32 ∧ f2.offset = 33 ∧ f3.offset = 34) ∧ Try.prog.underlying f0.type = some (.array 32 5) ∧ Try.prog.underlying f1.type = some (.int .u32) ∧ Try.prog.underlying f2.type = some .string ∧ Try.prog.underlying f3.type = some (.int .u32) ∧ (∀ W, (sizeOf f0.type).run Try.prog W = .ok 32 W) :=
    ⟨_, _, _, _, Try.underlying50, ⟨by decide, by decide, by decide, by decide⟩, ⟨rfl, rfl, rfl, rfl⟩, Try.underlying43, Try.underlying22, Try.underlying9, Try.underlying22, fun W => by kernel_rfl⟩
  have st : Try.prog.stoodInHeld 50 = false := by kernel_rfl
  have hf : Try.prog.fieldsOf 50 = #[f0, f1, f2, f3] := by simp [Program.fieldsOf, hu]
  refine (run_equalIn_struct W 9999 50 _ _ (by rw [hf]; exact hu) st).trans ?_
  rw [hf]
  have e3 := eqF_cons (W := W) (d := 9999) (xs := x.cells.toArray) (ys := y.cells.toArray) n3 (part_cell u3 rfl (by rw [o3]; exact x.at34)) (part_cell u3 rfl (by rw [o3]; exact y.at34)) (run_equalIn_int W 9998 f3.type .u32 .u32 _ _ u3) (fs := []) (r2 := true) rfl
  have e2 := eqF_cons (W := W) (d := 9999) (xs := x.cells.toArray) (ys := y.cells.toArray) n2 (part_cell u2 rfl (by rw [o2]; exact x.at33)) (part_cell u2 rfl (by rw [o2]; exact y.at33)) (run_equalIn_string W 9998 f2.type x.key y.key u2) e3
  have e1 := eqF_cons (W := W) (d := 9999) (xs := x.cells.toArray) (ys := y.cells.toArray) n1 (part_cell u1 rfl (by rw [o1]; exact x.at32)) (part_cell u1 rfl (by rw [o1]; exact y.at32)) (run_equalIn_int W 9998 f1.type .u32 .u32 _ _ u1) e2
  have e0 := eqF_cons (W := W) (d := 9999) (xs := x.cells.toArray) (ys := y.cells.toArray) n0 (part_row u0 rfl (s0 W) (by rw [o0]; exact x.hash_at)) (part_row u0 rfl (s0 W) (by rw [o0]; exact y.hash_at)) (eqC_bytes x.hash y.hash 32 x.hh y.hh f0.type u0 9997 W) e1
  rw [Ti.sameR] at e0
  exact e0
/-- .. of an output. -/
structure FO (t : TypeId) : Prop where
  ex : ∃ f0 f1, Try.prog.underlying t = some (.struct #[f0, f1]) ∧ (f0.name ≠ "_" ∧ f1.name ≠ "_") ∧ (f0.offset = 0 ∧ f1.offset = 1) ∧
    Try.prog.underlying f0.type = some (.int .u64) ∧ Try.prog.underlying f1.type = some .string
  st : Try.prog.stoodInHeld t = false
theorem fo_api : FO 52 := ⟨⟨_, _, Try.underlying52, ⟨by decide, by decide⟩, ⟨rfl, rfl⟩, Try.underlying32, Try.underlying9⟩, by kernel_rfl⟩
theorem fo_ref : FO 53 := ⟨⟨_, _, Try.underlying53, ⟨by decide, by decide⟩, ⟨rfl, rfl⟩, Try.underlying32, Try.underlying9⟩, by kernel_rfl⟩
theorem Tu.same (x y : Tu) : (((x.val.toNat : Int) == (y.val.toNat : Int)) && ((x.lock.toList == y.lock.toList) && true)) = decide (x = y) := by
  rw [bytes_same, Bool.eq_iff_iff]
  simp only [Bool.and_eq_true, beq_iff_eq, decide_eq_true_eq, and_true]
  constructor
  · rintro ⟨h0, h1⟩
    obtain ⟨a, b⟩ := x
    obtain ⟨a', b'⟩ := y
    simp only at h0 h1
    subst h1
    have e0 : a = a' := UInt64.toNat_inj.1 (by omega)
    subst e0
    rfl
  · rintro rfl
    exact ⟨rfl, rfl⟩
theorem eqTu {t : TypeId} (F : FO t) (x y : Tu) (W : World) : (Op.equalIn 10000 t (.agg x.cells.toArray) (.agg y.cells.toArray)).run Try.prog W = .ok (decide (x = y)) W := by
  obtain ⟨⟨f0, f1, hu, ⟨n0, n1⟩, ⟨o0, o1⟩, u0, u1⟩, st⟩ := F
  have hf : Try.prog.fieldsOf t = #[f0, f1] := by simp [Program.fieldsOf, hu]
  refine (run_equalIn_struct W 9999 t _ _ (by rw [hf]; exact hu) st).trans ?_
  rw [hf]
  have e1 := eqF_cons (W := W) (d := 9999) (xs := x.cells.toArray) (ys := y.cells.toArray) n1 (part_cell u1 rfl (by rw [o1]; rfl)) (part_cell u1 rfl (by rw [o1]; rfl)) (run_equalIn_string W 9998 f1.type x.lock y.lock u1) (fs := []) (r2 := true) rfl
  have e0 := eqF_cons (W := W) (d := 9999) (xs := x.cells.toArray) (ys := y.cells.toArray) n0 (part_cell u0 rfl (by rw [o0]; rfl)) (part_cell u0 rfl (by rw [o0]; rfl)) (run_equalIn_int W 9998 f0.type .u64 .u64 _ _ u0) e1
  rw [Tu.same] at e0
  exact e0
section
set_option maxRecDepth 10000
set_option maxHeartbeats 4000000
set_option linter.unusedSimpArgs false
end
section
set_option maxRecDepth 10000
set_option maxHeartbeats 4000000
set_option linter.unusedSimpArgs false
end
end Go.Proofs.Ytkbfcfmjbgnhcaa
