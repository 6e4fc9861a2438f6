/- When two points, inputs, outputs are the same; slices.Equal of lists of such: its contracts. -/
import Derived.Test.YtdkemnjkhclbkaaGreatDoorX13
namespace Go.Proofs.YtdkemnjkhclbkaaGreatDoor
open Go.RowKit
open Go.Deep
set_option linter.unusedVariables false
theorem qLoadX {α : Type} (E : Ek α) {kd : TypeDesc} (hu : Tryz.prog.underlying E.e = some kd) (hkd : kd.isRow = true) {C : World → Prop} {a : Act} {o : Oper} {K : Act → Prop} (x : Operand) (ho : o.op = .load E.e x) (g off : Nat) (hx : a.eval x = .pointer (some ⟨g, off, none⟩)) (y : α) (hr : ∀ W, C W → W.rangeAt g off (E.enc y))
    (hk : K (a.put o.dst (.agg (E.enc y).toArray))) : o.quiet Tryz.prog a C K := by
  refine ⟨.agg (E.enc y).toArray, fun W hC => ?_, hk⟩
  unfold Oper.quietAt execOp
  simp only [ho, hx, Sem.run_bind, E.load y hu hkd (hr W hC), Result.andThen_ok, Sem.run_pure]
  exact ⟨rfl, rfl⟩
theorem quiet_neqX {C : World → Prop} {a : Act} {o : Oper} {K : Act → Prop} (t : TypeId) (x y : Operand) (t2 : TypeId) (ho : o.op = .binOp .neq t x y t2) (c d : Array Value) (hx : a.eval x = .agg c) (hy : a.eval y = .agg d) (hg : Tryz.prog.eqGuardType Tryz.prog.depth t = false)
    (v : Bool) (hr : ∀ W, (Op.equalIn 10000 t (.agg c) (.agg d)).run Tryz.prog W = .ok v W) (hk : K (a.put o.dst (.bool !v))) : o.quiet Tryz.prog a C K := by
  refine ⟨.bool !v, fun W _ => ?_, hk⟩
  unfold Oper.quietAt execOp
  simp only [ho, hx, hy, Sem.run_bind, run_eqGuard_agg (P := Tryz.prog) W .neq t x y c d hg, run_neq_struct, hr W, Result.andThen_ok, Sem.run_pure]
  exact ⟨rfl, rfl⟩
theorem LX.cellX {α : Type} {E : Ek α} {w : World} {g off n cap : Nat} {L : List α} (h : LX E w (.slice (some ⟨g, off, none⟩) n cap) L) (i : Nat) (hi : i < L.length) {v : Value} (he : E.enc L[i] = [v]) (hk : E.k = 1) : w.cell? ⟨g, off + i, none⟩ = some v := by
  have := h.range i hi
  rw [he, hk, Nat.mul_one] at this
  exact this 0 v rfl
/-- A point. -/
structure Tp where
  hash : List UInt8
  idx : UInt32
  hh : hash.length = 32
  deriving DecidableEq
def Tp.cells (x : Tp) : List Value := cellsL x.hash ++ [.int .u32 (x.idx.toNat : Int)]
theorem Tp.len (x : Tp) : x.cells.length = 33 := by simp [Tp.cells, cellsL_len, x.hh]
theorem Tp.one (x : Tp) : ∀ v ∈ x.cells, v.oneCell' = true := fun v hv => by
  simp only [Tp.cells, List.mem_cons, List.mem_append, List.not_mem_nil, or_false] at hv
  rcases hv with h | rfl
  · exact cellsL_one _ v h
  · rfl
def Ti.pt (x : Ti) : Tp := ⟨x.hash, x.idx, x.hh⟩
theorem Tp.hash_at (x : Tp) : x.cells.toArray.extract 0 (0 + 32) = (cellsL x.hash).toArray := by
  have h : (cellsL x.hash).length = 32 := by rw [cellsL_len, x.hh]
  simp only [Tp.cells, List.extract_toArray, List.extract]
  simp [h]
theorem Tp.idx_at (x : Tp) : x.cells.toArray[32]? = some (.int .u32 (x.idx.toNat : Int)) := by
  have h : (cellsL x.hash).length = 32 := by rw [cellsL_len, x.hh]
  rw [List.getElem?_toArray, Tp.cells, List.getElem?_append_right (by omega), h]; rfl
theorem Ti.hash_at (x : Ti) : x.cells.toArray.extract 0 (0 + 32) = (cellsL x.hash).toArray := by
  have h : (cellsL x.hash).length = 32 := by rw [cellsL_len, x.hh]
  simp only [Ti.cells, List.extract_toArray, List.extract]
  simp [h]
theorem Ti.pt_at (x : Ti) : x.cells.toArray.extract 0 (0 + 33) = x.pt.cells.toArray := by
  have h : (cellsL x.hash).length = 32 := by rw [cellsL_len, x.hh]
  simp only [Ti.cells, Tp.cells, Ti.pt, List.extract_toArray, List.extract]
  simp
  rw [show 33 = (cellsL x.hash).length + 1 by omega, List.take_length_add_append]
  rfl
/-- A type's fields are those of a point. -/
structure FP (t : TypeId) : Prop where
  ex : ∃ f0 f1, Tryz.prog.underlying t = some (.struct #[f0, f1]) ∧ (f0.name ≠ "_" ∧ f1.name ≠ "_") ∧ (f0.offset = 0 ∧ f1.offset = 32) ∧
    Tryz.prog.underlying f0.type = some (.array 32 5) ∧ Tryz.prog.underlying f1.type = some (.int .u32) ∧ (∀ W, (sizeOf f0.type).run Tryz.prog W = .ok 32 W)
  st : Tryz.prog.stoodInHeld t = false
theorem fp_api : FP 135 := ⟨⟨_, _, Tryz.underlying135, ⟨by decide, by decide⟩, ⟨rfl, rfl⟩, Tryz.underlying24, Tryz.underlying22, fun W => by kernel_rfl⟩, by kernel_rfl⟩
theorem Tp.same (x y : Tp) : ((x.hash == y.hash) && (((x.idx.toNat : Int) == (y.idx.toNat : Int)) && true)) = decide (x = y) := by
  rw [Bool.eq_iff_iff]
  simp only [Bool.and_eq_true, beq_iff_eq, decide_eq_true_eq, and_true]
  constructor
  · rintro ⟨h0, h1⟩
    obtain ⟨a, b, _⟩ := x
    obtain ⟨a', b', _⟩ := y
    simp only at h0 h1
    subst h0
    have e0 : b = b' := UInt32.toNat_inj.1 (by omega)
    subst e0
    rfl
  · rintro rfl
    exact ⟨rfl, rfl⟩
theorem eqPt {t : TypeId} (F : FP t) (d : Nat) (x y : Tp) (W : World) : (Op.equalIn (d + 3) t (.agg x.cells.toArray) (.agg y.cells.toArray)).run Tryz.prog W = .ok (decide (x = y)) W := by
  obtain ⟨⟨f0, f1, hu, ⟨n0, n1⟩, ⟨o0, o1⟩, u0, u1, s0⟩, st⟩ := F
  have hf : Tryz.prog.fieldsOf t = #[f0, f1] := by simp [Program.fieldsOf, hu]
  refine (run_equalIn_struct W (d + 2) t _ _ (by rw [hf]; exact hu) st).trans ?_
  rw [hf]
  have e1 := eqF_cons (W := W) (d := d + 2) (xs := x.cells.toArray) (ys := y.cells.toArray) n1 (part_cell u1 rfl (by rw [o1]; exact x.idx_at)) (part_cell u1 rfl (by rw [o1]; exact y.idx_at)) (run_equalIn_int W (d + 1) f1.type .u32 .u32 _ _ u1) (fs := []) (r2 := true) rfl
  have e0 := eqF_cons (W := W) (d := d + 2) (xs := x.cells.toArray) (ys := y.cells.toArray) n0 (part_row u0 rfl (s0 W) (by rw [o0]; exact x.hash_at)) (part_row u0 rfl (s0 W) (by rw [o0]; exact y.hash_at)) (eqC_bytes x.hash y.hash 32 x.hh y.hh f0.type u0 d W) e1
  rw [Tp.same] at e0
  exact e0
theorem Ti.same (x y : Ti) : (decide (x.pt = y.pt) && ((x.key.toList == y.key.toList) && (((x.seq.toNat : Int) == (y.seq.toNat : Int)) && true))) = decide (x = y) := by
  rw [bytes_same, Bool.eq_iff_iff]
  simp only [Bool.and_eq_true, beq_iff_eq, decide_eq_true_eq, and_true]
  constructor
  · rintro ⟨h0, h1, h2⟩
    obtain ⟨a, b, c, d, _⟩ := x
    obtain ⟨a', b', c', d', _⟩ := y
    simp only [Ti.pt, Tp.mk.injEq] at h0 h1 h2
    obtain ⟨h3, h4⟩ := h0
    subst h1 h3 h4
    have e0 : d = d' := UInt32.toNat_inj.1 (by omega)
    subst e0
    rfl
  · rintro rfl
    exact ⟨rfl, rfl, rfl⟩
/-- .. of an input, the point in one. -/
theorem eqTi (x y : Ti) (W : World) : (Op.equalIn 10000 137 (.agg x.cells.toArray) (.agg y.cells.toArray)).run Tryz.prog W = .ok (decide (x = y)) W := by
  obtain ⟨f0, f1, f2, hu, ⟨n0, n1, n2⟩, ⟨o0, o1, o2⟩, ⟨u0, u0t⟩, u1, u2, s0⟩ : ∃ f0 f1 f2, Tryz.prog.underlying 137 = some (.struct #[f0, f1, f2]) ∧ (f0.name ≠ "_" ∧ f1.name ≠ "_" ∧ f2.name ≠ "_") ∧ (f0.offset = 0 ∧ f1.offset = 33 ∧ f2.offset = 34) ∧ ((∃ fs, Tryz.prog.underlying f0.type = some (.struct fs)) ∧ f0.type = 135) ∧ Tryz.prog.underlying f1.type = some .string ∧ Tryz.prog.underlying f2.type = some (.int .u32) ∧ (∀ W, (sizeOf f0.type).run Tryz.prog W = .ok 33 W) :=
    ⟨_, _, _, Tryz.underlying137, ⟨by decide, by decide, by decide⟩, ⟨rfl, rfl, rfl⟩, ⟨⟨_, Tryz.underlying135⟩, rfl⟩, Tryz.underlying9, Tryz.underlying22, fun W => by kernel_rfl⟩
  obtain ⟨fs, u0⟩ := u0
  have st : Tryz.prog.stoodInHeld 137 = false := by kernel_rfl
  have hf : Tryz.prog.fieldsOf 137 = #[f0, f1, f2] := by simp [Program.fieldsOf, hu]
  refine (run_equalIn_struct W 9999 137 _ _ (by rw [hf]; exact hu) st).trans ?_
  rw [hf]
  have e2 := eqF_cons (W := W) (d := 9999) (xs := x.cells.toArray) (ys := y.cells.toArray) n2 (part_cell u2 rfl (by rw [o2]; exact x.at34)) (part_cell u2 rfl (by rw [o2]; exact y.at34)) (run_equalIn_int W 9998 f2.type .u32 .u32 _ _ u2) (fs := []) (r2 := true) rfl
  have e1 := eqF_cons (W := W) (d := 9999) (xs := x.cells.toArray) (ys := y.cells.toArray) n1 (part_cell u1 rfl (by rw [o1]; exact x.at33)) (part_cell u1 rfl (by rw [o1]; exact y.at33)) (run_equalIn_string W 9998 f1.type x.key y.key u1) e2
  have hp : (Op.equalIn 9999 f0.type (.agg x.pt.cells.toArray) (.agg y.pt.cells.toArray)).run Tryz.prog W = .ok (decide (x.pt = y.pt)) W := by rw [u0t]; exact eqPt fp_api 9996 x.pt y.pt W
  have e0 := eqF_cons (W := W) (d := 9999) (xs := x.cells.toArray) (ys := y.cells.toArray) n0 (part_row (c := x.pt.cells.toArray) u0 rfl (s0 W) (by rw [o0]; exact x.pt_at)) (part_row (c := y.pt.cells.toArray) u0 rfl (s0 W) (by rw [o0]; exact y.pt_at)) hp e1
  rw [Ti.same] at e0
  exact e0
theorem Ti.sameR (x y : Ti) : ((x.hash == y.hash) && (((x.idx.toNat : Int) == (y.idx.toNat : Int)) && ((x.key.toList == y.key.toList) && (((x.seq.toNat : Int) == (y.seq.toNat : Int)) && true)))) = decide (x = y) := by
  have h := Tp.same x.pt y.pt
  have h2 := Ti.same x y
  rw [← h] at h2
  rw [← h2]
  simp only [Ti.pt, Bool.and_true, Bool.and_assoc]
/-- .. of the document's input. -/
theorem eqTr (x y : Ti) (W : World) : (Op.equalIn 10000 129 (.agg x.cells.toArray) (.agg y.cells.toArray)).run Tryz.prog W = .ok (decide (x = y)) W := by
  obtain ⟨f0, f1, f2, f3, hu, ⟨n0, n1, n2, n3⟩, ⟨o0, o1, o2, o3⟩, u0, u1, u2, u3, s0⟩ : ∃ f0 f1 f2 f3, Tryz.prog.underlying 129 = some (.struct #[f0, f1, f2, f3]) ∧ (f0.name ≠ "_" ∧ f1.name ≠ "_" ∧ f2.name ≠ "_" ∧ f3.name ≠ "_") ∧ (f0.offset = 0 ∧ f1.offset = 32 ∧ f2.offset = 33 ∧ f3.offset = 34) ∧ Tryz.prog.underlying f0.type = some (.array 32 5) ∧ Tryz.prog.underlying f1.type = some (.int .u32) ∧ Tryz.prog.underlying f2.type = some .string ∧ Tryz.prog.underlying f3.type = some (.int .u32) ∧ (∀ W, (sizeOf f0.type).run Tryz.prog W = .ok 32 W) :=
    ⟨_, _, _, _, Tryz.underlying129, ⟨by decide, by decide, by decide, by decide⟩, ⟨rfl, rfl, rfl, rfl⟩, Tryz.underlying23, Tryz.underlying22, Tryz.underlying9, Tryz.underlying22, fun W => by kernel_rfl⟩
  have st : Tryz.prog.stoodInHeld 129 = false := by kernel_rfl
  have hf : Tryz.prog.fieldsOf 129 = #[f0, f1, f2, f3] := by simp [Program.fieldsOf, hu]
  refine (run_equalIn_struct W 9999 129 _ _ (by rw [hf]; exact hu) st).trans ?_
  rw [hf]
  have e3 := eqF_cons (W := W) (d := 9999) (xs := x.cells.toArray) (ys := y.cells.toArray) n3 (part_cell u3 rfl (by rw [o3]; exact x.at34)) (part_cell u3 rfl (by rw [o3]; exact y.at34)) (run_equalIn_int W 9998 f3.type .u32 .u32 _ _ u3) (fs := []) (r2 := true) rfl
  have e2 := eqF_cons (W := W) (d := 9999) (xs := x.cells.toArray) (ys := y.cells.toArray) n2 (part_cell u2 rfl (by rw [o2]; exact x.at33)) (part_cell u2 rfl (by rw [o2]; exact y.at33)) (run_equalIn_string W 9998 f2.type x.key y.key u2) e3
  have e1 := eqF_cons (W := W) (d := 9999) (xs := x.cells.toArray) (ys := y.cells.toArray) n1 (part_cell u1 rfl (by rw [o1]; exact x.at32)) (part_cell u1 rfl (by rw [o1]; exact y.at32)) (run_equalIn_int W 9998 f1.type .u32 .u32 _ _ u1) e2
  have e0 := eqF_cons (W := W) (d := 9999) (xs := x.cells.toArray) (ys := y.cells.toArray) n0 (part_row u0 rfl (s0 W) (by rw [o0]; exact x.hash_at)) (part_row u0 rfl (s0 W) (by rw [o0]; exact y.hash_at)) (eqC_bytes x.hash y.hash 32 x.hh y.hh f0.type u0 9997 W) e1
  rw [Ti.sameR] at e0
  exact e0
/-- .. of an output. -/
structure FO (t : TypeId) : Prop where
  ex : ∃ f0 f1, Tryz.prog.underlying t = some (.struct #[f0, f1]) ∧ (f0.name ≠ "_" ∧ f1.name ≠ "_") ∧ (f0.offset = 0 ∧ f1.offset = 1) ∧
    Tryz.prog.underlying f0.type = some (.int .u64) ∧ Tryz.prog.underlying f1.type = some .string
  st : Tryz.prog.stoodInHeld t = false
theorem fo_api : FO 127 := ⟨⟨_, _, Tryz.underlying127, ⟨by decide, by decide⟩, ⟨rfl, rfl⟩, Tryz.underlying61, Tryz.underlying9⟩, by kernel_rfl⟩
theorem fo_ref : FO 130 := ⟨⟨_, _, Tryz.underlying130, ⟨by decide, by decide⟩, ⟨rfl, rfl⟩, Tryz.underlying61, Tryz.underlying9⟩, by kernel_rfl⟩
theorem Tu.same (x y : Tu) : (((x.val.toNat : Int) == (y.val.toNat : Int)) && ((x.lock.toList == y.lock.toList) && true)) = decide (x = y) := by
  rw [bytes_same, Bool.eq_iff_iff]
  simp only [Bool.and_eq_true, beq_iff_eq, decide_eq_true_eq, and_true]
  constructor
  · rintro ⟨h0, h1⟩
    obtain ⟨a, b⟩ := x
    obtain ⟨a', b'⟩ := y
    simp only at h0 h1
    subst h1
    have e0 : a = a' := UInt64.toNat_inj.1 (by omega)
    subst e0
    rfl
  · rintro rfl
    exact ⟨rfl, rfl⟩
theorem eqTu {t : TypeId} (F : FO t) (x y : Tu) (W : World) : (Op.equalIn 10000 t (.agg x.cells.toArray) (.agg y.cells.toArray)).run Tryz.prog W = .ok (decide (x = y)) W := by
  obtain ⟨⟨f0, f1, hu, ⟨n0, n1⟩, ⟨o0, o1⟩, u0, u1⟩, st⟩ := F
  have hf : Tryz.prog.fieldsOf t = #[f0, f1] := by simp [Program.fieldsOf, hu]
  refine (run_equalIn_struct W 9999 t _ _ (by rw [hf]; exact hu) st).trans ?_
  rw [hf]
  have e1 := eqF_cons (W := W) (d := 9999) (xs := x.cells.toArray) (ys := y.cells.toArray) n1 (part_cell u1 rfl (by rw [o1]; rfl)) (part_cell u1 rfl (by rw [o1]; rfl)) (run_equalIn_string W 9998 f1.type x.lock y.lock u1) (fs := []) (r2 := true) rfl
  have e0 := eqF_cons (W := W) (d := 9999) (xs := x.cells.toArray) (ys := y.cells.toArray) n0 (part_cell u0 rfl (by rw [o0]; rfl)) (part_cell u0 rfl (by rw [o0]; rfl)) (run_equalIn_int W 9998 f0.type .u64 .u64 _ _ u0) e1
  rw [Tu.same] at e0
  exact e0
section
set_option maxRecDepth 10000
set_option maxHeartbeats 4000000
set_option linter.unusedSimpArgs false
theorem equal_in (va vb : Value) (xs ys : List Ti) (w : World) (ha : LX KA w va xs) (hb : LX KA w vb ys) (hn : xs.length < 4611686018427387904) :
    Calls Tryz.prog 93 #[va, vb] w fun e w' => e = .returned (.bool (decide (xs = ys))) ∧ Below w.heap.size w w' := by
  obtain ⟨aa, ca, rfl⟩ := ha.form
  obtain ⟨ab, cb, rfl⟩ := hb.form
  have HA := hide ha
  have HB := hide hb
  clear ha hb
  by_cases hl : xs.length = ys.length
  · have hl2 : ((xs.length : Int) != (ys.length : Int)) = false := by rw [hl]; simp
    obtain ⟨r, hr⟩ : ∃ r : Bool, r = decide (xs = ys) := ⟨_, rfl⟩
    have HR := hide hr
    rw [← hr]
    have HL := hide hl
    clear hr hl
    go_enter Tryz.func93, Tryz.ntmps93
    go_wp2
    go_loopw [5, 13] (fun _ d wr => ∃ k : Nat, k ≤ xs.length ∧ d = .int .i64 (k : Int) ∧ Hid (∀ j, j < k → xs[j]? = ys[j]?) ∧ Hid (Below w.heap.size w wr)) (fun _ d _ => (xs.length - intOf d).toNat)
    case atStart => exact ⟨0, Nat.zero_le _, rfl, fun j hj => by omega, Below.refl _ _⟩
    case round =>
      obtain ⟨k, hk, rfl, HJ, BW⟩ := hrel
      by_cases hlt : k < xs.length
      · have h1 : (k : Int) < (xs.length : Int) := by omega
        have h2 : (k : Int) < (ys.length : Int) := by have := HL.out; omega
        have h3 : (0 : Int) ≤ (k : Int) := by omega
        have e1 : IntKind.i64.wrap ((k : Int) + 1) = k + 1 := wrapI _ (by omega) (by omega)
        have hlb : k < ys.length := by have := HL.out; omega
        obtain ⟨ga, oa, rfl⟩ := HA.out.base (by omega)
        obtain ⟨gb, ob, rfl⟩ := HB.out.base (by omega)
        have KK := hide (And.intro (show k + 1 ≤ xs.length by omega) (show ((xs.length : Int) - ((k : Int) + 1)).toNat < ((xs.length : Int) - (k : Int)).toNat by omega))
        have HX : Hid (xs[k]? = some xs[k]) := List.getElem?_eq_getElem hlt
        have HY : Hid (ys[k]? = some ys[k]) := List.getElem?_eq_getElem hlb
        have RA : Hid (∀ W, Below w.heap.size w W → W.rangeAt ga (oa + k * 35) (KA.enc xs[k])) := fun W h => (HA.out.below h).range k hlt
        have RB : Hid (∀ W, Below w.heap.size w W → W.rangeAt gb (ob + k * 35) (KA.enc ys[k])) := fun W h => (HB.out.below h).range k hlb
        have EQ := hide (eqTi xs[k] ys[k])
        generalize xs[k] = x at *
        generalize ys[k] = y at *
        clear hlt hlb hk
        by_cases hxy : x = y
        · have HN : Hid (∀ j, j < k + 1 → xs[j]? = ys[j]?) := fun j hj => by
            rcases Nat.lt_or_ge j k with h | h
            · exact HJ.out j h
            · rw [show j = k by omega, HX.out, HY.out, hxy]
          rw [decide_eq_true hxy] at EQ
          go_upto_region 6 with fail
          obtain ⟨I, hneI, F, i0, hd0, hJ, hcl⟩ : ∃ (I : Type) (_ : Nonempty I) (F : I → World) (i0 : I), wr.drew = F i0 ∧ Hid (∀ i, Below w.heap.size w (F i)) ∧ Hid (∀ i W', Below (F i).heap.size (F i) W' → ∃ j, W' = F j) :=
            ⟨{W : World // Below w.heap.size w W}, ⟨⟨_, BW.out⟩⟩, Subtype.val, ⟨wr.drew, BW.out.drew⟩, rfl, fun i => i.2, fun i W' b => ⟨⟨W', below_next i.2 b⟩, rfl⟩⟩
          refine wp_region_class_lit (by kernel_rfl) (by kernel_rfl) i0 hd0 ?_
          repeat (first | ((go_big_quiet_want; first | refine qLoadX KA Tryz.underlying137 rfl _ (by rfl) ga (oa + k * 35) (by rfl) x (fun W hC => by obtain ⟨i, rfl⟩ := hC; exact RA.out _ (hJ.out i)) ?_ | refine qLoadX KA Tryz.underlying137 rfl _ (by rfl) gb (ob + k * 35) (by rfl) y (fun W hC => by obtain ⟨i, rfl⟩ := hC; exact RB.out _ (hJ.out i)) ?_ | refine quiet_neqX 137 _ _ _ (by rfl) (KA.enc x).toArray (KA.enc y).toArray (by rfl) (by rfl) (by kernel_rfl) true EQ.out ?_); go_big_quiet_on; simp only [Act.put, List.setIfInBounds_toArray, List.set_cons_succ, List.set_cons_zero, Bool.not_true, Bool.not_false]) | go_big_quiet_step (fail))
          refine wpQuiet_nil ?_
          rintro _ ⟨iq, rfl⟩
          have BF := hide (hJ.out iq)
          clear hJ hcl hd0 BW
          generalize F iq = W2 at *
          go_wp2
          exact ⟨⟨k + 1, KK.out.1, by go_num, HN, BF⟩, by simpa [intOf] using KK.out.2⟩
        · have hr : r = false := by
            rw [HR.out, decide_eq_false_iff_not]
            rintro rfl
            exact hxy (Option.some.inj (HX.out.symm.trans HY.out))
          subst hr
          rw [decide_eq_false hxy] at EQ
          go_upto_region 6 with fail
          obtain ⟨I, hneI, F, i0, hd0, hJ, hcl⟩ : ∃ (I : Type) (_ : Nonempty I) (F : I → World) (i0 : I), wr.drew = F i0 ∧ Hid (∀ i, Below w.heap.size w (F i)) ∧ Hid (∀ i W', Below (F i).heap.size (F i) W' → ∃ j, W' = F j) :=
            ⟨{W : World // Below w.heap.size w W}, ⟨⟨_, BW.out⟩⟩, Subtype.val, ⟨wr.drew, BW.out.drew⟩, rfl, fun i => i.2, fun i W' b => ⟨⟨W', below_next i.2 b⟩, rfl⟩⟩
          refine wp_region_class_lit (by kernel_rfl) (by kernel_rfl) i0 hd0 ?_
          repeat (first | ((go_big_quiet_want; first | refine qLoadX KA Tryz.underlying137 rfl _ (by rfl) ga (oa + k * 35) (by rfl) x (fun W hC => by obtain ⟨i, rfl⟩ := hC; exact RA.out _ (hJ.out i)) ?_ | refine qLoadX KA Tryz.underlying137 rfl _ (by rfl) gb (ob + k * 35) (by rfl) y (fun W hC => by obtain ⟨i, rfl⟩ := hC; exact RB.out _ (hJ.out i)) ?_ | refine quiet_neqX 137 _ _ _ (by rfl) (KA.enc x).toArray (KA.enc y).toArray (by rfl) (by rfl) (by kernel_rfl) false EQ.out ?_); go_big_quiet_on; simp only [Act.put, List.setIfInBounds_toArray, List.set_cons_succ, List.set_cons_zero, Bool.not_true, Bool.not_false]) | go_big_quiet_step (fail))
          refine wpQuiet_nil ?_
          rintro _ ⟨iq, rfl⟩
          have BF := hide (hJ.out iq)
          clear hJ hcl hd0 BW
          generalize F iq = W2 at *
          go_wp2
          go_ret
          exact ⟨rfl, BF.out⟩
      · have h1 : ¬ (k : Int) < (xs.length : Int) := by omega
        have hr : r = true := by
          rw [HR.out, decide_eq_true_eq]
          apply List.ext_getElem?
          intro i
          rcases Nat.lt_or_ge i k with h | h
          · exact HJ.out i h
          · rw [List.getElem?_eq_none (by omega), List.getElem?_eq_none (by have := HL.out; omega)]
        subst hr
        clear hlt hk
        go_wp2
        go_ret
        exact ⟨rfl, BW.out⟩
  · have hl2 : ((xs.length : Int) != (ys.length : Int)) = true := by rw [bne_iff_ne]; omega
    rw [show decide (xs = ys) = false from decide_eq_false (fun h => hl (by rw [h]))]
    clear hl
    go_enter Tryz.func93, Tryz.ntmps93
    go_wp2
    go_ret
    exact ⟨rfl, Below.refl _ _⟩
end
section
set_option maxRecDepth 10000
set_option maxHeartbeats 4000000
set_option linter.unusedSimpArgs false
theorem equal_out (va vb : Value) (xs ys : List Tu) (w : World) (ha : LX KO w va xs) (hb : LX KO w vb ys) (hn : xs.length < 4611686018427387904) :
    Calls Tryz.prog 94 #[va, vb] w fun e w' => e = .returned (.bool (decide (xs = ys))) ∧ Below w.heap.size w w' := by
  obtain ⟨aa, ca, rfl⟩ := ha.form
  obtain ⟨ab, cb, rfl⟩ := hb.form
  have HA := hide ha
  have HB := hide hb
  clear ha hb
  by_cases hl : xs.length = ys.length
  · have hl2 : ((xs.length : Int) != (ys.length : Int)) = false := by rw [hl]; simp
    obtain ⟨r, hr⟩ : ∃ r : Bool, r = decide (xs = ys) := ⟨_, rfl⟩
    have HR := hide hr
    rw [← hr]
    have HL := hide hl
    clear hr hl
    go_enter Tryz.func94, Tryz.ntmps94
    go_wp2
    go_loopw [5, 13] (fun _ d wr => ∃ k : Nat, k ≤ xs.length ∧ d = .int .i64 (k : Int) ∧ Hid (∀ j, j < k → xs[j]? = ys[j]?) ∧ Hid (Below w.heap.size w wr)) (fun _ d _ => (xs.length - intOf d).toNat)
    case atStart => exact ⟨0, Nat.zero_le _, rfl, fun j hj => by omega, Below.refl _ _⟩
    case round =>
      obtain ⟨k, hk, rfl, HJ, BW⟩ := hrel
      by_cases hlt : k < xs.length
      · have h1 : (k : Int) < (xs.length : Int) := by omega
        have h2 : (k : Int) < (ys.length : Int) := by have := HL.out; omega
        have h3 : (0 : Int) ≤ (k : Int) := by omega
        have e1 : IntKind.i64.wrap ((k : Int) + 1) = k + 1 := wrapI _ (by omega) (by omega)
        have hlb : k < ys.length := by have := HL.out; omega
        obtain ⟨ga, oa, rfl⟩ := HA.out.base (by omega)
        obtain ⟨gb, ob, rfl⟩ := HB.out.base (by omega)
        have KK := hide (And.intro (show k + 1 ≤ xs.length by omega) (show ((xs.length : Int) - ((k : Int) + 1)).toNat < ((xs.length : Int) - (k : Int)).toNat by omega))
        have HX : Hid (xs[k]? = some xs[k]) := List.getElem?_eq_getElem hlt
        have HY : Hid (ys[k]? = some ys[k]) := List.getElem?_eq_getElem hlb
        have RA : Hid (∀ W, Below w.heap.size w W → W.rangeAt ga (oa + k * 2) (KO.enc xs[k])) := fun W h => (HA.out.below h).range k hlt
        have RB : Hid (∀ W, Below w.heap.size w W → W.rangeAt gb (ob + k * 2) (KO.enc ys[k])) := fun W h => (HB.out.below h).range k hlb
        have EQ := hide (eqTu fo_api xs[k] ys[k])
        generalize xs[k] = x at *
        generalize ys[k] = y at *
        clear hlt hlb hk
        by_cases hxy : x = y
        · have HN : Hid (∀ j, j < k + 1 → xs[j]? = ys[j]?) := fun j hj => by
            rcases Nat.lt_or_ge j k with h | h
            · exact HJ.out j h
            · rw [show j = k by omega, HX.out, HY.out, hxy]
          rw [decide_eq_true hxy] at EQ
          go_upto_region 6 with fail
          obtain ⟨I, hneI, F, i0, hd0, hJ, hcl⟩ : ∃ (I : Type) (_ : Nonempty I) (F : I → World) (i0 : I), wr.drew = F i0 ∧ Hid (∀ i, Below w.heap.size w (F i)) ∧ Hid (∀ i W', Below (F i).heap.size (F i) W' → ∃ j, W' = F j) :=
            ⟨{W : World // Below w.heap.size w W}, ⟨⟨_, BW.out⟩⟩, Subtype.val, ⟨wr.drew, BW.out.drew⟩, rfl, fun i => i.2, fun i W' b => ⟨⟨W', below_next i.2 b⟩, rfl⟩⟩
          refine wp_region_class_lit (by kernel_rfl) (by kernel_rfl) i0 hd0 ?_
          repeat (first | ((go_big_quiet_want; first | refine qLoadX KO Tryz.underlying127 rfl _ (by rfl) ga (oa + k * 2) (by rfl) x (fun W hC => by obtain ⟨i, rfl⟩ := hC; exact RA.out _ (hJ.out i)) ?_ | refine qLoadX KO Tryz.underlying127 rfl _ (by rfl) gb (ob + k * 2) (by rfl) y (fun W hC => by obtain ⟨i, rfl⟩ := hC; exact RB.out _ (hJ.out i)) ?_ | refine quiet_neqX 127 _ _ _ (by rfl) (KO.enc x).toArray (KO.enc y).toArray (by rfl) (by rfl) (by kernel_rfl) true EQ.out ?_); go_big_quiet_on; simp only [Act.put, List.setIfInBounds_toArray, List.set_cons_succ, List.set_cons_zero, Bool.not_true, Bool.not_false]) | go_big_quiet_step (fail))
          refine wpQuiet_nil ?_
          rintro _ ⟨iq, rfl⟩
          have BF := hide (hJ.out iq)
          clear hJ hcl hd0 BW
          generalize F iq = W2 at *
          go_wp2
          exact ⟨⟨k + 1, KK.out.1, by go_num, HN, BF⟩, by simpa [intOf] using KK.out.2⟩
        · have hr : r = false := by
            rw [HR.out, decide_eq_false_iff_not]
            rintro rfl
            exact hxy (Option.some.inj (HX.out.symm.trans HY.out))
          subst hr
          rw [decide_eq_false hxy] at EQ
          go_upto_region 6 with fail
          obtain ⟨I, hneI, F, i0, hd0, hJ, hcl⟩ : ∃ (I : Type) (_ : Nonempty I) (F : I → World) (i0 : I), wr.drew = F i0 ∧ Hid (∀ i, Below w.heap.size w (F i)) ∧ Hid (∀ i W', Below (F i).heap.size (F i) W' → ∃ j, W' = F j) :=
            ⟨{W : World // Below w.heap.size w W}, ⟨⟨_, BW.out⟩⟩, Subtype.val, ⟨wr.drew, BW.out.drew⟩, rfl, fun i => i.2, fun i W' b => ⟨⟨W', below_next i.2 b⟩, rfl⟩⟩
          refine wp_region_class_lit (by kernel_rfl) (by kernel_rfl) i0 hd0 ?_
          repeat (first | ((go_big_quiet_want; first | refine qLoadX KO Tryz.underlying127 rfl _ (by rfl) ga (oa + k * 2) (by rfl) x (fun W hC => by obtain ⟨i, rfl⟩ := hC; exact RA.out _ (hJ.out i)) ?_ | refine qLoadX KO Tryz.underlying127 rfl _ (by rfl) gb (ob + k * 2) (by rfl) y (fun W hC => by obtain ⟨i, rfl⟩ := hC; exact RB.out _ (hJ.out i)) ?_ | refine quiet_neqX 127 _ _ _ (by rfl) (KO.enc x).toArray (KO.enc y).toArray (by rfl) (by rfl) (by kernel_rfl) false EQ.out ?_); go_big_quiet_on; simp only [Act.put, List.setIfInBounds_toArray, List.set_cons_succ, List.set_cons_zero, Bool.not_true, Bool.not_false]) | go_big_quiet_step (fail))
          refine wpQuiet_nil ?_
          rintro _ ⟨iq, rfl⟩
          have BF := hide (hJ.out iq)
          clear hJ hcl hd0 BW
          generalize F iq = W2 at *
          go_wp2
          go_ret
          exact ⟨rfl, BF.out⟩
      · have h1 : ¬ (k : Int) < (xs.length : Int) := by omega
        have hr : r = true := by
          rw [HR.out, decide_eq_true_eq]
          apply List.ext_getElem?
          intro i
          rcases Nat.lt_or_ge i k with h | h
          · exact HJ.out i h
          · rw [List.getElem?_eq_none (by omega), List.getElem?_eq_none (by have := HL.out; omega)]
        subst hr
        clear hlt hk
        go_wp2
        go_ret
        exact ⟨rfl, BW.out⟩
  · have hl2 : ((xs.length : Int) != (ys.length : Int)) = true := by rw [bne_iff_ne]; omega
    rw [show decide (xs = ys) = false from decide_eq_false (fun h => hl (by rw [h]))]
    clear hl
    go_enter Tryz.func94, Tryz.ntmps94
    go_wp2
    go_ret
    exact ⟨rfl, Below.refl _ _⟩
end
end Go.Proofs.YtdkemnjkhclbkaaGreatDoor
