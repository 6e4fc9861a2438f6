/- When two addresses, things, ids, places with texts are the same. -/
import Derived.Test.YtkoidjaaojmcnaaGreatM04
namespace Go.Proofs.YtkoidjaaojmcnaaGreat
open Go.RowKit
open Go.Deep
theorem eqF_cons {W : World} {d : Nat} {xs ys : Array Value} {f : Field} {fs : List Field} (hn : f.name ≠ "_") {a b : Value} {r : Bool} (pa : (Go.part f.type xs f.offset).run Tryz.prog W = .ok a W) (pb : (Go.part f.type ys f.offset).run Tryz.prog W = .ok b W)
    (hr : (Op.equalIn d f.type a b).run Tryz.prog W = .ok r W) {r2 : Bool} (hrest : (Op.eqFields d xs ys fs).run Tryz.prog W = .ok r2 W) : (Op.eqFields d xs ys (f :: fs)).run Tryz.prog W = .ok (r && r2) W := by
  simp only [Op.eqFields, hn, ne_eq, not_false_eq_true, if_true, Sem.run_bind, pa, pb, hr, Result.andThen_ok]
  cases r
  · simp
  · simp [hrest]
theorem part_cell {W : World} {t : TypeId} {xs : Array Value} {off : Nat} {kd : TypeDesc} {v : Value} (hu : Tryz.prog.underlying t = some kd) (hk : kd.isRow = false) (h : xs[off]? = some v) : (Go.part t xs off).run Tryz.prog W = .ok v W := by
  unfold Go.part isAgg
  cases kd <;> simp [TypeDesc.isRow] at hk <;> simp [run_underlying hu, h]
theorem part_row {W : World} {t : TypeId} {xs : Array Value} {off n : Nat} {kd : TypeDesc} {c : Array Value} (hu : Tryz.prog.underlying t = some kd) (hk : kd.isRow = true) (hs : (sizeOf t).run Tryz.prog W = .ok n W) (h : xs.extract off (off + n) = c) : (Go.part t xs off).run Tryz.prog W = .ok (.agg c) W := by
  unfold Go.part isAgg
  cases kd <;> simp [TypeDesc.isRow] at hk <;> simp [run_underlying hu, hs, h]
/-- A type's fields are those of an address. -/
structure FN (t : TypeId) : Prop where
  ex : ∃ f0 f1 f2 f3, Tryz.prog.underlying t = some (.struct #[f0, f1, f2, f3]) ∧ (f0.name ≠ "_" ∧ f1.name ≠ "_" ∧ f2.name ≠ "_" ∧ f3.name ≠ "_") ∧ (f0.offset = 0 ∧ f1.offset = 1 ∧ f2.offset = 2 ∧ f3.offset = 18) ∧
    Tryz.prog.underlying f0.type = some (.int .u32) ∧ Tryz.prog.underlying f1.type = some (.int .u64) ∧ Tryz.prog.underlying f2.type = some (.array 16 5) ∧ Tryz.prog.underlying f3.type = some (.int .u16) ∧ (∀ W, (sizeOf f2.type).run Tryz.prog W = .ok 16 W)
  st : Tryz.prog.stoodInHeld t = false
theorem fn_api : FN 27 := ⟨⟨_, _, _, _, Tryz.underlying27, ⟨by decide, by decide, by decide, by decide⟩, ⟨rfl, rfl, rfl, rfl⟩, Tryz.underlying22, Tryz.underlying23, Tryz.underlying24, Tryz.underlying25, fun W => by kernel_rfl⟩, by kernel_rfl⟩
theorem fn_ref : FN 44 := ⟨⟨_, _, _, _, Tryz.underlying44, ⟨by decide, by decide, by decide, by decide⟩, ⟨rfl, rfl, rfl, rfl⟩, Tryz.underlying22, Tryz.underlying23, Tryz.underlying24, Tryz.underlying25, fun W => by kernel_rfl⟩, by kernel_rfl⟩
theorem eqC_bytes (l m : List UInt8) (n : Nat) (hl : l.length = n) (hm : m.length = n) (t : TypeId) (ht : Tryz.prog.underlying t = some (.array n 5)) (d : Nat) (W : World) : (Op.equalIn (d + 2) t (.agg (cellsL l).toArray) (.agg (cellsL m).toArray)).run Tryz.prog W = .ok (l == m) W :=
  run_equalIn_bytes (P := Tryz.prog) W d t 5 n ht Tryz.underlying5 size5 l m hl hm
theorem Nt.ip_at (x : Nt) : x.cells.toArray.extract 2 (2 + 16) = (cellsL x.ip).toArray := by
  have h : (cellsL x.ip).length = 16 := by rw [cellsL_len, x.hip]
  simp only [Nt.cells, List.extract_toArray, List.extract]
  simp [h]
theorem Nt.port_at (x : Nt) : x.cells.toArray[18]? = some (.int .u16 (x.port.toNat : Int)) := by
  have h : (cellsL x.ip).length = 16 := by rw [cellsL_len, x.hip]
  simp only [Nt.cells, List.getElem?_toArray, List.getElem?_cons_succ]
  rw [List.getElem?_append_right (by omega), h]
  rfl
theorem Nt.same (x y : Nt) : (((x.time.toNat : Int) == (y.time.toNat : Int)) && (((x.serv.toNat : Int) == (y.serv.toNat : Int)) && ((x.ip == y.ip) && (((x.port.toNat : Int) == (y.port.toNat : Int)) && true)))) = decide (x = y) := by
  rw [Bool.eq_iff_iff]
  simp only [Bool.and_eq_true, beq_iff_eq, decide_eq_true_eq, and_true]
  constructor
  · rintro ⟨h0, h1, h2, h3⟩
    obtain ⟨a, b, c, d, _⟩ := x
    obtain ⟨a', b', c', d', _⟩ := y
    simp only at h0 h1 h2 h3
    subst h2
    have e0 : a = a' := UInt32.toNat_inj.1 (by omega)
    have e1 : b = b' := UInt64.toNat_inj.1 (by omega)
    have e3 : d = d' := UInt16.toNat_inj.1 (by omega)
    subst e0 e1 e3
    rfl
  · rintro rfl
    exact ⟨rfl, rfl, rfl, rfl⟩
theorem eqNt {t : TypeId} (F : FN t) (x y : Nt) (W : World) : (Op.equalIn 10000 t (.agg x.cells.toArray) (.agg y.cells.toArray)).run Tryz.prog W = .ok (decide (x = y)) W := by
  obtain ⟨⟨f0, f1, f2, f3, hu, ⟨n0, n1, n2, n3⟩, ⟨o0, o1, o2, o3⟩, u0, u1, u2, u3, s2⟩, st⟩ := F
  have hf : Tryz.prog.fieldsOf t = #[f0, f1, f2, f3] := by simp [Program.fieldsOf, hu]
  refine (run_equalIn_struct W 9999 t _ _ (by rw [hf]; exact hu) st).trans ?_
  rw [hf]
  have e3 := eqF_cons (W := W) (d := 9999) (xs := x.cells.toArray) (ys := y.cells.toArray) n3 (part_cell u3 rfl (by rw [o3]; exact x.port_at)) (part_cell u3 rfl (by rw [o3]; exact y.port_at)) (run_equalIn_int W 9998 f3.type .u16 .u16 _ _ u3) (fs := []) (r2 := true) rfl
  have e2 := eqF_cons (W := W) (d := 9999) (xs := x.cells.toArray) (ys := y.cells.toArray) n2 (part_row u2 rfl (s2 W) (by rw [o2]; exact x.ip_at)) (part_row u2 rfl (s2 W) (by rw [o2]; exact y.ip_at)) (eqC_bytes x.ip y.ip 16 x.hip y.hip f2.type u2 9997 W) e3
  have e1 := eqF_cons (W := W) (d := 9999) (xs := x.cells.toArray) (ys := y.cells.toArray) n1 (part_cell u1 rfl (by rw [o1]; rfl)) (part_cell u1 rfl (by rw [o1]; rfl)) (run_equalIn_int W 9998 f1.type .u64 .u64 _ _ u1) e2
  have e0 := eqF_cons (W := W) (d := 9999) (xs := x.cells.toArray) (ys := y.cells.toArray) n0 (part_cell u0 rfl (by rw [o0]; rfl)) (part_cell u0 rfl (by rw [o0]; rfl)) (run_equalIn_int W 9998 f0.type .u32 .u32 _ _ u0) e1
  rw [Nt.same] at e0
  exact e0
/-- .. of a thing. -/
structure FI (t : TypeId) : Prop where
  ex : ∃ f0 f1, Tryz.prog.underlying t = some (.struct #[f0, f1]) ∧ (f0.name ≠ "_" ∧ f1.name ≠ "_") ∧ (f0.offset = 0 ∧ f1.offset = 1) ∧
    Tryz.prog.underlying f0.type = some (.int .u32) ∧ Tryz.prog.underlying f1.type = some (.array 32 5) ∧ (∀ W, (sizeOf f1.type).run Tryz.prog W = .ok 32 W)
  st : Tryz.prog.stoodInHeld t = false
theorem fi_api : FI 73 := ⟨⟨_, _, Tryz.underlying73, ⟨by decide, by decide⟩, ⟨rfl, rfl⟩, Tryz.underlying22, Tryz.underlying32, fun W => by kernel_rfl⟩, by kernel_rfl⟩
theorem fi_ref : FI 75 := ⟨⟨_, _, Tryz.underlying75, ⟨by decide, by decide⟩, ⟨rfl, rfl⟩, Tryz.underlying22, Tryz.underlying31, fun W => by kernel_rfl⟩, by kernel_rfl⟩
theorem Im.hash_at (x : Im) : x.cells.toArray.extract 1 (1 + 32) = (cellsL x.hash).toArray := by
  have h : (cellsL x.hash).length = 32 := by rw [cellsL_len, x.hh]
  simp only [Im.cells, List.extract_toArray, List.extract]
  simp
  rw [List.take_of_length_le (by omega)]
theorem Im.same (x y : Im) : (((x.kind.toNat : Int) == (y.kind.toNat : Int)) && ((x.hash == y.hash) && true)) = decide (x = y) := by
  rw [Bool.eq_iff_iff]
  simp only [Bool.and_eq_true, beq_iff_eq, decide_eq_true_eq, and_true]
  constructor
  · rintro ⟨h0, h1⟩
    obtain ⟨a, b, _⟩ := x
    obtain ⟨a', b', _⟩ := y
    simp only at h0 h1
    subst h1
    have e0 : a = a' := UInt32.toNat_inj.1 (by omega)
    subst e0
    rfl
  · rintro rfl
    exact ⟨rfl, rfl⟩
theorem eqIm {t : TypeId} (F : FI t) (x y : Im) (W : World) : (Op.equalIn 10000 t (.agg x.cells.toArray) (.agg y.cells.toArray)).run Tryz.prog W = .ok (decide (x = y)) W := by
  obtain ⟨⟨f0, f1, hu, ⟨n0, n1⟩, ⟨o0, o1⟩, u0, u1, s1⟩, st⟩ := F
  have hf : Tryz.prog.fieldsOf t = #[f0, f1] := by simp [Program.fieldsOf, hu]
  refine (run_equalIn_struct W 9999 t _ _ (by rw [hf]; exact hu) st).trans ?_
  rw [hf]
  have e1 := eqF_cons (W := W) (d := 9999) (xs := x.cells.toArray) (ys := y.cells.toArray) n1 (part_row u1 rfl (s1 W) (by rw [o1]; exact x.hash_at)) (part_row u1 rfl (s1 W) (by rw [o1]; exact y.hash_at)) (eqC_bytes x.hash y.hash 32 x.hh y.hh f1.type u1 9997 W) (fs := []) (r2 := true) rfl
  have e0 := eqF_cons (W := W) (d := 9999) (xs := x.cells.toArray) (ys := y.cells.toArray) n0 (part_cell u0 rfl (by rw [o0]; rfl)) (part_cell u0 rfl (by rw [o0]; rfl)) (run_equalIn_int W 9998 f0.type .u32 .u32 _ _ u0) e1
  rw [Im.same] at e0
  exact e0
/-- .. of a place with a text. -/
structure FF (t : TypeId) : Prop where
  ex : ∃ f0 f1, Tryz.prog.underlying t = some (.struct #[f0, f1]) ∧ (f0.name ≠ "_" ∧ f1.name ≠ "_") ∧ (f0.offset = 0 ∧ f1.offset = 1) ∧
    Tryz.prog.underlying f0.type = some (.int .i64) ∧ Tryz.prog.underlying f1.type = some .string
  st : Tryz.prog.stoodInHeld t = false
theorem ff_api : FF 77 := ⟨⟨_, _, Tryz.underlying77, ⟨by decide, by decide⟩, ⟨rfl, rfl⟩, Tryz.underlying3, Tryz.underlying9⟩, by kernel_rfl⟩
theorem ff_ref : FF 78 := ⟨⟨_, _, Tryz.underlying78, ⟨by decide, by decide⟩, ⟨rfl, rfl⟩, Tryz.underlying3, Tryz.underlying9⟩, by kernel_rfl⟩
theorem bytes_same (a b : ByteArray) : (a.toList == b.toList) = decide (a = b) := by
  rw [Bool.eq_iff_iff, beq_iff_eq, decide_eq_true_eq, ByteArray.toList_eq, ByteArray.toList_eq]
  constructor
  · intro h
    obtain ⟨⟨x⟩⟩ := a
    obtain ⟨⟨y⟩⟩ := b
    simp only at h
    rw [h]
  · rintro rfl
    rfl
theorem Fd.same (x y : Fd) : ((x.place == y.place) && ((x.raw.toList == y.raw.toList) && true)) = decide (x = y) := by
  rw [bytes_same, Bool.eq_iff_iff]
  simp only [Bool.and_eq_true, beq_iff_eq, decide_eq_true_eq, and_true]
  constructor
  · rintro ⟨h0, h1⟩
    obtain ⟨a, b⟩ := x
    obtain ⟨a', b'⟩ := y
    simp only at h0 h1
    subst h0 h1
    rfl
  · rintro rfl
    exact ⟨rfl, rfl⟩
theorem eqFd {t : TypeId} (F : FF t) (x y : Fd) (W : World) : (Op.equalIn 10000 t (.agg x.cells.toArray) (.agg y.cells.toArray)).run Tryz.prog W = .ok (decide (x = y)) W := by
  obtain ⟨⟨f0, f1, hu, ⟨n0, n1⟩, ⟨o0, o1⟩, u0, u1⟩, st⟩ := F
  have hf : Tryz.prog.fieldsOf t = #[f0, f1] := by simp [Program.fieldsOf, hu]
  refine (run_equalIn_struct W 9999 t _ _ (by rw [hf]; exact hu) st).trans ?_
  rw [hf]
  have e1 := eqF_cons (W := W) (d := 9999) (xs := x.cells.toArray) (ys := y.cells.toArray) n1 (part_cell u1 rfl (by rw [o1]; rfl)) (part_cell u1 rfl (by rw [o1]; rfl)) (run_equalIn_string W 9998 f1.type x.raw y.raw u1) (fs := []) (r2 := true) rfl
  have e0 := eqF_cons (W := W) (d := 9999) (xs := x.cells.toArray) (ys := y.cells.toArray) n0 (part_cell u0 rfl (by rw [o0]; rfl)) (part_cell u0 rfl (by rw [o0]; rfl)) (run_equalIn_int W 9998 f0.type .i64 .i64 _ _ u0) e1
  rw [Fd.same] at e0
  exact e0
theorem eqId {t : TypeId} (ht : Tryz.prog.underlying t = some (.array 32 5)) (x y : Id32) (W : World) : (Op.equalIn 10000 t (.agg (cellsL x.1).toArray) (.agg (cellsL y.1).toArray)).run Tryz.prog W = .ok (decide (x = y)) W := by
  have h := eqC_bytes x.1 y.1 32 x.2 y.2 t ht 9998 W
  rw [show (x.1 == y.1) = decide (x = y) by rw [Bool.eq_iff_iff, beq_iff_eq, decide_eq_true_eq]; exact ⟨Subtype.ext, fun h => by rw [h]⟩] at h
  exact h
end Go.Proofs.YtkoidjaaojmcnaaGreat
