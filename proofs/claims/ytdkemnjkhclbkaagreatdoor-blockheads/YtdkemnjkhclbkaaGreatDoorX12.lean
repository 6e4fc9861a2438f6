/- When two addresses, things, ids, places with texts are the same. Transactions: what they hold, their bytes; what it means that a part is taken off bytes. -/
import Derived.Test.YtdkemnjkhclbkaaGreatDoorX11
namespace Go.Proofs.YtdkemnjkhclbkaaGreatDoor
open Go.RowKit
open Go.Deep
theorem eqF_cons {W : World} {d : Nat} {xs ys : Array Value} {f : Field} {fs : List Field} (hn : f.name ≠ "_") {a b : Value} {r : Bool} (pa : (Go.part f.type xs f.offset).run Tryz.prog W = .ok a W) (pb : (Go.part f.type ys f.offset).run Tryz.prog W = .ok b W)
    (hr : (Op.equalIn d f.type a b).run Tryz.prog W = .ok r W) {r2 : Bool} (hrest : (Op.eqFields d xs ys fs).run Tryz.prog W = .ok r2 W) : (Op.eqFields d xs ys (f :: fs)).run Tryz.prog W = .ok (r && r2) W := by
  simp only [Op.eqFields, hn, ne_eq, not_false_eq_true, if_true, Sem.run_bind, pa, pb, hr, Result.andThen_ok]
  cases r
  · simp
  · simp [hrest]
theorem part_cell {W : World} {t : TypeId} {xs : Array Value} {off : Nat} {kd : TypeDesc} {v : Value} (hu : Tryz.prog.underlying t = some kd) (hk : kd.isRow = false) (h : xs[off]? = some v) : (Go.part t xs off).run Tryz.prog W = .ok v W := by
  unfold Go.part isAgg
  cases kd <;> simp [TypeDesc.isRow] at hk <;> simp [run_underlying hu, h]
theorem part_row {W : World} {t : TypeId} {xs : Array Value} {off n : Nat} {kd : TypeDesc} {c : Array Value} (hu : Tryz.prog.underlying t = some kd) (hk : kd.isRow = true) (hs : (sizeOf t).run Tryz.prog W = .ok n W) (h : xs.extract off (off + n) = c) : (Go.part t xs off).run Tryz.prog W = .ok (.agg c) W := by
  unfold Go.part isAgg
  cases kd <;> simp [TypeDesc.isRow] at hk <;> simp [run_underlying hu, hs, h]
/-- A type's fields are those of an address. -/
structure FN (t : TypeId) : Prop where
  ex : ∃ f0 f1 f2 f3, Tryz.prog.underlying t = some (.struct #[f0, f1, f2, f3]) ∧ (f0.name ≠ "_" ∧ f1.name ≠ "_" ∧ f2.name ≠ "_" ∧ f3.name ≠ "_") ∧ (f0.offset = 0 ∧ f1.offset = 1 ∧ f2.offset = 2 ∧ f3.offset = 18) ∧
    Tryz.prog.underlying f0.type = some (.int .u32) ∧ Tryz.prog.underlying f1.type = some (.int .u64) ∧ Tryz.prog.underlying f2.type = some (.array 16 5) ∧ Tryz.prog.underlying f3.type = some (.int .u16) ∧ (∀ W, (sizeOf f2.type).run Tryz.prog W = .ok 16 W)
  st : Tryz.prog.stoodInHeld t = false
theorem eqC_bytes (l m : List UInt8) (n : Nat) (hl : l.length = n) (hm : m.length = n) (t : TypeId) (ht : Tryz.prog.underlying t = some (.array n 5)) (d : Nat) (W : World) : (Op.equalIn (d + 2) t (.agg (cellsL l).toArray) (.agg (cellsL m).toArray)).run Tryz.prog W = .ok (l == m) W :=
  run_equalIn_bytes (P := Tryz.prog) W d t 5 n ht Tryz.underlying5 size5 l m hl hm
theorem Nt.ip_at (x : Nt) : x.cells.toArray.extract 2 (2 + 16) = (cellsL x.ip).toArray := by
  have h : (cellsL x.ip).length = 16 := by rw [cellsL_len, x.hip]
  simp only [Nt.cells, List.extract_toArray, List.extract]
  simp [h]
theorem Nt.port_at (x : Nt) : x.cells.toArray[18]? = some (.int .u16 (x.port.toNat : Int)) := by
  have h : (cellsL x.ip).length = 16 := by rw [cellsL_len, x.hip]
  simp only [Nt.cells, List.getElem?_toArray, List.getElem?_cons_succ]
  rw [List.getElem?_append_right (by omega), h]
  rfl
theorem Nt.same (x y : Nt) : (((x.time.toNat : Int) == (y.time.toNat : Int)) && (((x.serv.toNat : Int) == (y.serv.toNat : Int)) && ((x.ip == y.ip) && (((x.port.toNat : Int) == (y.port.toNat : Int)) && true)))) = decide (x = y) := by
  rw [Bool.eq_iff_iff]
  simp only [Bool.and_eq_true, beq_iff_eq, decide_eq_true_eq, and_true]
  constructor
  · rintro ⟨h0, h1, h2, h3⟩
    obtain ⟨a, b, c, d, _⟩ := x
    obtain ⟨a', b', c', d', _⟩ := y
    simp only at h0 h1 h2 h3
    subst h2
    have e0 : a = a' := UInt32.toNat_inj.1 (by omega)
    have e1 : b = b' := UInt64.toNat_inj.1 (by omega)
    have e3 : d = d' := UInt16.toNat_inj.1 (by omega)
    subst e0 e1 e3
    rfl
  · rintro rfl
    exact ⟨rfl, rfl, rfl, rfl⟩
theorem eqNt {t : TypeId} (F : FN t) (x y : Nt) (W : World) : (Op.equalIn 10000 t (.agg x.cells.toArray) (.agg y.cells.toArray)).run Tryz.prog W = .ok (decide (x = y)) W := by
  obtain ⟨⟨f0, f1, f2, f3, hu, ⟨n0, n1, n2, n3⟩, ⟨o0, o1, o2, o3⟩, u0, u1, u2, u3, s2⟩, st⟩ := F
  have hf : Tryz.prog.fieldsOf t = #[f0, f1, f2, f3] := by simp [Program.fieldsOf, hu]
  refine (run_equalIn_struct W 9999 t _ _ (by rw [hf]; exact hu) st).trans ?_
  rw [hf]
  have e3 := eqF_cons (W := W) (d := 9999) (xs := x.cells.toArray) (ys := y.cells.toArray) n3 (part_cell u3 rfl (by rw [o3]; exact x.port_at)) (part_cell u3 rfl (by rw [o3]; exact y.port_at)) (run_equalIn_int W 9998 f3.type .u16 .u16 _ _ u3) (fs := []) (r2 := true) rfl
  have e2 := eqF_cons (W := W) (d := 9999) (xs := x.cells.toArray) (ys := y.cells.toArray) n2 (part_row u2 rfl (s2 W) (by rw [o2]; exact x.ip_at)) (part_row u2 rfl (s2 W) (by rw [o2]; exact y.ip_at)) (eqC_bytes x.ip y.ip 16 x.hip y.hip f2.type u2 9997 W) e3
  have e1 := eqF_cons (W := W) (d := 9999) (xs := x.cells.toArray) (ys := y.cells.toArray) n1 (part_cell u1 rfl (by rw [o1]; rfl)) (part_cell u1 rfl (by rw [o1]; rfl)) (run_equalIn_int W 9998 f1.type .u64 .u64 _ _ u1) e2
  have e0 := eqF_cons (W := W) (d := 9999) (xs := x.cells.toArray) (ys := y.cells.toArray) n0 (part_cell u0 rfl (by rw [o0]; rfl)) (part_cell u0 rfl (by rw [o0]; rfl)) (run_equalIn_int W 9998 f0.type .u32 .u32 _ _ u0) e1
  rw [Nt.same] at e0
  exact e0
/-- .. of a thing. -/
structure FI (t : TypeId) : Prop where
  ex : ∃ f0 f1, Tryz.prog.underlying t = some (.struct #[f0, f1]) ∧ (f0.name ≠ "_" ∧ f1.name ≠ "_") ∧ (f0.offset = 0 ∧ f1.offset = 1) ∧
    Tryz.prog.underlying f0.type = some (.int .u32) ∧ Tryz.prog.underlying f1.type = some (.array 32 5) ∧ (∀ W, (sizeOf f1.type).run Tryz.prog W = .ok 32 W)
  st : Tryz.prog.stoodInHeld t = false
theorem Im.hash_at (x : Im) : x.cells.toArray.extract 1 (1 + 32) = (cellsL x.hash).toArray := by
  have h : (cellsL x.hash).length = 32 := by rw [cellsL_len, x.hh]
  simp only [Im.cells, List.extract_toArray, List.extract]
  simp
  rw [List.take_of_length_le (by omega)]
theorem Im.same (x y : Im) : (((x.kind.toNat : Int) == (y.kind.toNat : Int)) && ((x.hash == y.hash) && true)) = decide (x = y) := by
  rw [Bool.eq_iff_iff]
  simp only [Bool.and_eq_true, beq_iff_eq, decide_eq_true_eq, and_true]
  constructor
  · rintro ⟨h0, h1⟩
    obtain ⟨a, b, _⟩ := x
    obtain ⟨a', b', _⟩ := y
    simp only at h0 h1
    subst h1
    have e0 : a = a' := UInt32.toNat_inj.1 (by omega)
    subst e0
    rfl
  · rintro rfl
    exact ⟨rfl, rfl⟩
theorem eqIm {t : TypeId} (F : FI t) (x y : Im) (W : World) : (Op.equalIn 10000 t (.agg x.cells.toArray) (.agg y.cells.toArray)).run Tryz.prog W = .ok (decide (x = y)) W := by
  obtain ⟨⟨f0, f1, hu, ⟨n0, n1⟩, ⟨o0, o1⟩, u0, u1, s1⟩, st⟩ := F
  have hf : Tryz.prog.fieldsOf t = #[f0, f1] := by simp [Program.fieldsOf, hu]
  refine (run_equalIn_struct W 9999 t _ _ (by rw [hf]; exact hu) st).trans ?_
  rw [hf]
  have e1 := eqF_cons (W := W) (d := 9999) (xs := x.cells.toArray) (ys := y.cells.toArray) n1 (part_row u1 rfl (s1 W) (by rw [o1]; exact x.hash_at)) (part_row u1 rfl (s1 W) (by rw [o1]; exact y.hash_at)) (eqC_bytes x.hash y.hash 32 x.hh y.hh f1.type u1 9997 W) (fs := []) (r2 := true) rfl
  have e0 := eqF_cons (W := W) (d := 9999) (xs := x.cells.toArray) (ys := y.cells.toArray) n0 (part_cell u0 rfl (by rw [o0]; rfl)) (part_cell u0 rfl (by rw [o0]; rfl)) (run_equalIn_int W 9998 f0.type .u32 .u32 _ _ u0) e1
  rw [Im.same] at e0
  exact e0
/-- .. of a place with a text. -/
structure FF (t : TypeId) : Prop where
  ex : ∃ f0 f1, Tryz.prog.underlying t = some (.struct #[f0, f1]) ∧ (f0.name ≠ "_" ∧ f1.name ≠ "_") ∧ (f0.offset = 0 ∧ f1.offset = 1) ∧
    Tryz.prog.underlying f0.type = some (.int .i64) ∧ Tryz.prog.underlying f1.type = some .string
  st : Tryz.prog.stoodInHeld t = false
theorem bytes_same (a b : ByteArray) : (a.toList == b.toList) = decide (a = b) := by
  rw [Bool.eq_iff_iff, beq_iff_eq, decide_eq_true_eq, ByteArray.toList_eq, ByteArray.toList_eq]
  constructor
  · intro h
    obtain ⟨⟨x⟩⟩ := a
    obtain ⟨⟨y⟩⟩ := b
    simp only at h
    rw [h]
  · rintro rfl
    rfl
theorem Fd.same (x y : Fd) : ((x.place == y.place) && ((x.raw.toList == y.raw.toList) && true)) = decide (x = y) := by
  rw [bytes_same, Bool.eq_iff_iff]
  simp only [Bool.and_eq_true, beq_iff_eq, decide_eq_true_eq, and_true]
  constructor
  · rintro ⟨h0, h1⟩
    obtain ⟨a, b⟩ := x
    obtain ⟨a', b'⟩ := y
    simp only at h0 h1
    subst h0 h1
    rfl
  · rintro rfl
    exact ⟨rfl, rfl⟩
theorem eqFd {t : TypeId} (F : FF t) (x y : Fd) (W : World) : (Op.equalIn 10000 t (.agg x.cells.toArray) (.agg y.cells.toArray)).run Tryz.prog W = .ok (decide (x = y)) W := by
  obtain ⟨⟨f0, f1, hu, ⟨n0, n1⟩, ⟨o0, o1⟩, u0, u1⟩, st⟩ := F
  have hf : Tryz.prog.fieldsOf t = #[f0, f1] := by simp [Program.fieldsOf, hu]
  refine (run_equalIn_struct W 9999 t _ _ (by rw [hf]; exact hu) st).trans ?_
  rw [hf]
  have e1 := eqF_cons (W := W) (d := 9999) (xs := x.cells.toArray) (ys := y.cells.toArray) n1 (part_cell u1 rfl (by rw [o1]; rfl)) (part_cell u1 rfl (by rw [o1]; rfl)) (run_equalIn_string W 9998 f1.type x.raw y.raw u1) (fs := []) (r2 := true) rfl
  have e0 := eqF_cons (W := W) (d := 9999) (xs := x.cells.toArray) (ys := y.cells.toArray) n0 (part_cell u0 rfl (by rw [o0]; rfl)) (part_cell u0 rfl (by rw [o0]; rfl)) (run_equalIn_int W 9998 f0.type .i64 .i64 _ _ u0) e1
  rw [Fd.same] at e0
  exact e0
theorem eqId {t : TypeId} (ht : Tryz.prog.underlying t = some (.array 32 5)) (x y : Id32) (W : World) : (Op.equalIn 10000 t (.agg (cellsL x.1).toArray) (.agg (cellsL y.1).toArray)).run Tryz.prog W = .ok (decide (x = y)) W := by
  have h := eqC_bytes x.1 y.1 32 x.2 y.2 t ht 9998 W
  rw [show (x.1 == y.1) = decide (x = y) by rw [Bool.eq_iff_iff, beq_iff_eq, decide_eq_true_eq]; exact ⟨Subtype.ext, fun h => by rw [h]⟩] at h
  exact h
end Go.Proofs.YtdkemnjkhclbkaaGreatDoor
namespace Go.Proofs.YtdkemnjkhclbkaaGreatDoor
open Go.RowKit
open Go.Deep
set_option linter.unusedVariables false
/-- An input. -/
structure Ti where
  hash : List UInt8
  idx : UInt32
  key : ByteArray
  seq : UInt32
  hh : hash.length = 32
  deriving DecidableEq
/-- An output. -/
structure Tu where
  val : UInt64
  lock : ByteArray
  deriving DecidableEq
/-- A transaction. -/
structure Tm where
  ver : UInt32
  ins : List Ti
  outs : List Tu
  time : UInt32
  deriving DecidableEq
def Ti.cells (x : Ti) : List Value := cellsL x.hash ++ [.int .u32 (x.idx.toNat : Int), .string x.key, .int .u32 (x.seq.toNat : Int)]
def Tu.cells (x : Tu) : List Value := [.int .u64 (x.val.toNat : Int), .string x.lock]
theorem Ti.len (x : Ti) : x.cells.length = 35 := by simp [Ti.cells, cellsL_len, x.hh]
theorem Ti.one (x : Ti) : ∀ v ∈ x.cells, v.oneCell' = true := fun v hv => by
  simp only [Ti.cells, List.mem_cons, List.mem_append, List.not_mem_nil, or_false] at hv
  rcases hv with h | rfl | rfl | rfl
  · exact cellsL_one _ v h
  all_goals rfl
theorem Tu.one (x : Tu) : ∀ v ∈ x.cells, v.oneCell' = true := fun v hv => by
  simp only [Tu.cells, List.mem_cons, List.not_mem_nil, or_false] at hv
  rcases hv with rfl | rfl <;> rfl
def KA : Ek Ti := ⟨75, 137, 35, 64, Ti.cells, by decide, by decide, Tryz.underlying75, by kernel_rfl, Ti.len, Ti.one⟩
def KAr : Ek Ti := ⟨70, 129, 35, 64, Ti.cells, by decide, by decide, Tryz.underlying70, by kernel_rfl, Ti.len, Ti.one⟩
def KO : Ek Tu := ⟨76, 127, 2, 24, Tu.cells, by decide, by decide, Tryz.underlying76, by kernel_rfl, fun _ => rfl, Tu.one⟩
def KOr : Ek Tu := ⟨71, 130, 2, 24, Tu.cells, by decide, by decide, Tryz.underlying71, by kernel_rfl, fun _ => rfl, Tu.one⟩
/-! ### bytes -/
/-- A text with its count. -/
def txtL (x : ByteArray) : List UInt8 := countL x.size ++ x.data.toList
def Ti.bytes (x : Ti) : List UInt8 := x.hash ++ (lowL x.idx.toNat 4 ++ (txtL x.key ++ lowL x.seq.toNat 4))
def Tu.bytes (x : Tu) : List UInt8 := lowL x.val.toNat 8 ++ txtL x.lock
def insL (l : List Ti) : List UInt8 := (l.map Ti.bytes).flatten
def outsL (l : List Tu) : List UInt8 := (l.map Tu.bytes).flatten
def Tm.bytes (x : Tm) : List UInt8 := lowL x.ver.toNat 4 ++ ((countL x.ins.length ++ insL x.ins) ++ ((countL x.outs.length ++ outsL x.outs) ++ lowL x.time.toNat 4))
/-- What a transaction that is read keeps to. -/
def Ti.ok (x : Ti) : Prop := x.key.size ≤ 520
def Tu.ok (x : Tu) : Prop := x.lock.size ≤ 520
def Tm.ok (x : Tm) : Prop := (x.ins.length ≤ 4096 ∧ ∀ i ∈ x.ins, i.ok) ∧ (x.outs.length ≤ 4096 ∧ ∀ o ∈ x.outs, o.ok)
/-! ### parts that are taken -/
/-- From the place n, with the error e, a part was taken: x, the place n', the error e'. -/
structure Tk {α : Type} (enc : α → List UInt8) (ok : α → Prop) (t : ByteArray) (n : Nat) (e : Int) (x : α) (n' : Nat) (e' : Int) : Prop where
  lo : n ≤ n'
  hi : n' ≤ t.size
  sound : e' = 0 → e = 0 ∧ t.data.toList.drop n = enc x ++ t.data.toList.drop n' ∧ ok x ∧ n' ≤ 4096
  full : ∀ y Y, e = 0 → ok y → t.data.toList.drop n = enc y ++ Y → n + (enc y).length ≤ 4096 → e' = 0 ∧ x = y ∧ n' = n + (enc y).length
section
variable {α β : Type} {enc : α → List UInt8} {ok : α → Prop} {encB : β → List UInt8} {okB : β → Prop} {t : ByteArray} {n n1 n2 : Nat} {e e1 e2 : Int} {x : α} {y : β}
theorem Tk.seq (a : Tk enc ok t n e x n1 e1) (b : Tk encB okB t n1 e1 y n2 e2) : Tk (fun p : α × β => enc p.1 ++ encB p.2) (fun p => ok p.1 ∧ okB p.2) t n e (x, y) n2 e2 := by
  refine ⟨Nat.le_trans a.lo b.lo, b.hi, fun h => ?_, ?_⟩
  · obtain ⟨h1, h2, h3, h4⟩ := b.sound h
    obtain ⟨g1, g2, g3, g4⟩ := a.sound h1
    exact ⟨g1, by rw [g2, h2, List.append_assoc], ⟨g3, h3⟩, h4⟩
  · rintro ⟨y1, y2⟩ Y he ⟨o1, o2⟩ hd hl
    simp only at hd hl o1 o2 ⊢
    rw [List.append_assoc] at hd
    rw [List.length_append] at hl ⊢
    obtain ⟨g1, rfl, g3⟩ := a.full y1 _ he o1 hd (by omega)
    have hd2 : t.data.toList.drop n1 = encB y2 ++ Y := by rw [g3, ← List.drop_drop, hd, List.drop_left]
    obtain ⟨h1, rfl, h3⟩ := b.full y2 Y g1 o2 hd2 (by omega)
    exact ⟨h1, rfl, by omega⟩
theorem Tk.conv (a : Tk enc ok t n e x n1 e1) (f : α → β) (h1 : ∀ z, ok z → encB (f z) = enc z) (h2 : ∀ z, ok z → okB (f z)) (h3 : ∀ y, okB y → ∃ z, f z = y ∧ ok z) : Tk encB okB t n e (f x) n1 e1 := by
  refine ⟨a.lo, a.hi, fun h => ?_, fun y Y he ho hd hl => ?_⟩
  · obtain ⟨g1, g2, g3, g4⟩ := a.sound h
    exact ⟨g1, by rw [h1 _ g3]; exact g2, h2 _ g3, g4⟩
  · obtain ⟨z, rfl, oz⟩ := h3 y ho
    rw [h1 _ oz] at hd hl ⊢
    obtain ⟨g1, rfl, g3⟩ := a.full z Y he oz hd hl
    exact ⟨g1, rfl, g3⟩
theorem Tk.nil (hn : n ≤ t.size) (h0 : e = 0 → n ≤ 4096) : Tk (fun l : List α => (l.map enc).flatten) (fun l => l.length = 0 ∧ ∀ z ∈ l, ok z) t n e [] n e := by
  refine ⟨Nat.le_refl _, hn, fun h => ⟨h, rfl, ⟨rfl, fun z hz => by cases hz⟩, h0 h⟩, fun l Y he ho hd hl => ?_⟩
  have : l = [] := List.eq_nil_of_length_eq_zero ho.1
  subst this
  exact ⟨he, rfl, rfl⟩
theorem Tk.snoc {L : List α} {i : Nat} (a : Tk (fun l : List α => (l.map enc).flatten) (fun l => l.length = i ∧ ∀ z ∈ l, ok z) t n e L n1 e1) (b : Tk enc ok t n1 e1 x n2 e2) : Tk (fun l : List α => (l.map enc).flatten) (fun l => l.length = i + 1 ∧ ∀ z ∈ l, ok z) t n e (L ++ [x]) n2 e2 := by
  refine (a.seq b).conv (fun p => p.1 ++ [p.2]) (fun z _ => by simp) (fun z hz => ⟨by simp [hz.1.1], fun u hu => ?_⟩) (fun y hy => ?_)
  · rcases List.mem_append.1 hu with h | h
    · exact hz.1.2 u h
    · rw [List.mem_singleton.1 h]; exact hz.2
  · have hne : y ≠ [] := fun h => by rw [h] at hy; simp at hy
    refine ⟨(y.dropLast, y.getLast hne), List.dropLast_concat_getLast hne, ⟨by simp [hy.1], fun z hz => hy.2 z (List.dropLast_subset _ hz)⟩, hy.2 _ (List.getLast_mem hne)⟩
/-- A list, behind its count, taken to its end. -/
theorem Tk.list {L : List α} {c most : Nat} (a : Tk countL (fun k => k ≤ most) t n e c n1 e1) (b : Tk (fun l : List α => (l.map enc).flatten) (fun l => l.length = c ∧ ∀ z ∈ l, ok z) t n1 e1 L n2 e2) : Tk (fun l : List α => countL l.length ++ (l.map enc).flatten) (fun l => l.length ≤ most ∧ ∀ z ∈ l, ok z) t n e L n2 e2 := by
  refine ⟨Nat.le_trans a.lo b.lo, b.hi, fun h => ?_, fun l Y he ho hd hl => ?_⟩
  · obtain ⟨h1, h2, h3, h4⟩ := b.sound h
    obtain ⟨g1, g2, g3, g4⟩ := a.sound h1
    exact ⟨g1, by rw [g2, h2, List.append_assoc, h3.1], ⟨by rw [h3.1]; exact g3, h3.2⟩, h4⟩
  · rw [List.append_assoc] at hd
    rw [List.length_append] at hl ⊢
    obtain ⟨g1, g2, g3⟩ := a.full l.length _ he ho.1 hd (by omega)
    have hd2 : t.data.toList.drop n1 = (l.map enc).flatten ++ Y := by rw [g3, ← List.drop_drop, hd, List.drop_left]
    obtain ⟨h1, h2, h3⟩ := b.full l Y g1 ⟨g2.symm, ho.2⟩ hd2 (by omega)
    exact ⟨h1, h2, by omega⟩
/-- .. left at an error in its midst. -/
theorem Tk.left {L : List α} {c most i : Nat} (a : Tk countL (fun k => k ≤ most) t n e c n1 e1) (b : Tk (fun l : List α => (l.map enc).flatten) (fun l => l.length = i ∧ ∀ z ∈ l, ok z) t n1 e1 L n2 e2) (hi : i ≤ c) (hne : e2 ≠ 0) : Tk (fun l : List α => countL l.length ++ (l.map enc).flatten) (fun l => l.length ≤ most ∧ ∀ z ∈ l, ok z) t n e [] n2 e2 := by
  refine ⟨Nat.le_trans a.lo b.lo, b.hi, fun h => absurd h hne, fun l Y he ho hd hl => ?_⟩
  exfalso
  rw [List.append_assoc] at hd
  rw [List.length_append] at hl
  obtain ⟨g1, g2, g3⟩ := a.full l.length _ he ho.1 hd (by omega)
  have hd2 : t.data.toList.drop n1 = (l.map enc).flatten ++ Y := by rw [g3, ← List.drop_drop, hd, List.drop_left]
  have hs : (l.map enc).flatten = ((l.take i).map enc).flatten ++ ((l.drop i).map enc).flatten := by
    rw [← List.flatten_append, ← List.map_append, List.take_append_drop]
  have hsl := congrArg List.length hs
  rw [List.length_append] at hsl
  rw [hs, List.append_assoc] at hd2
  obtain ⟨h1, _, _⟩ := b.full (l.take i) _ g1 ⟨by rw [List.length_take]; omega, fun z hz => ho.2 z (List.mem_of_mem_take hz)⟩ hd2 (by omega)
  exact hne h1
end
end Go.Proofs.YtdkemnjkhclbkaaGreatDoor
