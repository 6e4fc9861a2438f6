/- The walk of BlockHeads. Nodes of a tree of headers: their cells; the map of ids. -/
import Derived.Test.YtofddbjnncgmlabGreatDoorX32
import Derived.Test.YtofddbjnncgmlabGreatDoorX13
import Derived.Test.YtofddbjnncgmlabGreatDoorX27
import Derived.Maps.OwnSet
import Derived.Maps.OwnOps
namespace Go.Proofs.YtofddbjnncgmlabGreatDoor
open Go.RowKit
open Go.Deep
set_option linter.unusedVariables false
theorem leN_lowC (k n : Nat) (h : n < 256 ^ k) : leN (lowL n k) = n := by
  induction k generalizing n with
  | zero => simp [lowL, leN] at *; omega
  | succ k ih =>
    rw [lowL, leN, ih (n / 256) (by rw [Nat.pow_succ] at h; omega), UInt8.toNat_ofNat']
    omega
theorem u32_low (n : UInt32) : u32B (lowL n.toNat 4) = n := by
  rw [u32B, leN_lowC 4 n.toNat (by have := n.toNat_lt; omega), UInt32.ofNat_toNat]
theorem hdOf_bytes (h : Hd) (hl : 80 ≤ h.bytes.length) : hdOf h.bytes hl = h := by
  obtain ⟨v, p, r, t, b, o, hp, hr⟩ := h
  have e : (⟨v, p, r, t, b, o, hp, hr⟩ : Hd).bytes = lowL v.toNat 4 ++ (p ++ (r ++ (lowL t.toNat 4 ++ (lowL b.toNat 4 ++ lowL o.toNat 4)))) := by simp [Hd.bytes, Hd.front, List.append_assoc]
  generalize (⟨v, p, r, t, b, o, hp, hr⟩ : Hd).bytes = l at *
  have d4 : l.drop 4 = p ++ (r ++ (lowL t.toNat 4 ++ (lowL b.toNat 4 ++ lowL o.toNat 4))) := by rw [e]; exact List.drop_left' (lowL_len _ _)
  have d36 : l.drop 36 = r ++ (lowL t.toNat 4 ++ (lowL b.toNat 4 ++ lowL o.toNat 4)) := by rw [show 36 = 4 + 32 from rfl, ← List.drop_drop, d4]; exact List.drop_left' hp
  have d68 : l.drop 68 = lowL t.toNat 4 ++ (lowL b.toNat 4 ++ lowL o.toNat 4) := by rw [show 68 = 36 + 32 from rfl, ← List.drop_drop, d36]; exact List.drop_left' hr
  have d72 : l.drop 72 = lowL b.toNat 4 ++ lowL o.toNat 4 := by rw [show 72 = 68 + 4 from rfl, ← List.drop_drop, d68]; exact List.drop_left' (lowL_len _ _)
  have d76 : l.drop 76 = lowL o.toNat 4 := by rw [show 76 = 72 + 4 from rfl, ← List.drop_drop, d72]; exact List.drop_left' (lowL_len _ _)
  have t0 : l.take 4 = lowL v.toNat 4 := by rw [e]; exact List.take_left' (lowL_len _ _)
  have t4 : (l.drop 4).take 32 = p := by rw [d4]; exact List.take_left' hp
  have t36 : (l.drop 36).take 32 = r := by rw [d36]; exact List.take_left' hr
  have t68 : (l.drop 68).take 4 = lowL t.toNat 4 := by rw [d68]; exact List.take_left' (lowL_len _ _)
  have t72 : (l.drop 72).take 4 = lowL b.toNat 4 := by rw [d72]; exact List.take_left' (lowL_len _ _)
  have t76 : (l.drop 76).take 4 = lowL o.toNat 4 := by rw [d76]; exact List.take_of_length_le (by rw [lowL_len]; omega)
  simp only [hdOf, t0, t4, t36, t68, t72, t76, u32_low]
theorem tkA_back (h : Hd) (s : ByteArray) (hs : s.data.toList = 120 :: h.bytes) : tkA s 1 = (h, 0) := by
  have hz : s.size = 81 := by
    have h1 : s.data.toList.length = s.size := by simp
    rw [← h1, hs, List.length_cons, h.bytes_len]
  have e : s.data.toList.drop (1 : Int).toNat = h.bytes := by rw [hs]; rfl
  rw [tkA, if_neg (by omega), e, tkH, dif_pos (by rw [h.bytes_len]; omega), hdOf_bytes]
/-- A type's fields are those of a header. -/
structure FHd (t : TypeId) : Prop where
  ex : ∃ f0 f1 f2 f3 f4 f5, Tryz.prog.underlying t = some (.struct #[f0, f1, f2, f3, f4, f5]) ∧ (f0.name ≠ "_" ∧ f1.name ≠ "_" ∧ f2.name ≠ "_" ∧ f3.name ≠ "_" ∧ f4.name ≠ "_" ∧ f5.name ≠ "_") ∧ (f0.offset = 0 ∧ f1.offset = 1 ∧ f2.offset = 33 ∧ f3.offset = 65 ∧ f4.offset = 66 ∧ f5.offset = 67) ∧
    (Tryz.prog.underlying f0.type = some (.int .u32) ∧ Tryz.prog.underlying f3.type = some (.int .u32) ∧ Tryz.prog.underlying f4.type = some (.int .u32) ∧ Tryz.prog.underlying f5.type = some (.int .u32)) ∧ Tryz.prog.underlying f1.type = some (.array 32 5) ∧ Tryz.prog.underlying f2.type = some (.array 32 5) ∧ (∀ W, (sizeOf f1.type).run Tryz.prog W = .ok 32 W) ∧ (∀ W, (sizeOf f2.type).run Tryz.prog W = .ok 32 W)
  st : Tryz.prog.stoodInHeld t = false
theorem fh_api : FHd 27 := ⟨⟨_, _, _, _, _, _, Tryz.underlying27, ⟨by decide, by decide, by decide, by decide, by decide, by decide⟩, ⟨rfl, rfl, rfl, rfl, rfl, rfl⟩, ⟨Tryz.underlying23, Tryz.underlying23, Tryz.underlying23, Tryz.underlying23⟩, Tryz.underlying25, Tryz.underlying25, fun W => by kernel_rfl, fun W => by kernel_rfl⟩, by kernel_rfl⟩
theorem fh_ref : FHd 35 := ⟨⟨_, _, _, _, _, _, Tryz.underlying35, ⟨by decide, by decide, by decide, by decide, by decide, by decide⟩, ⟨rfl, rfl, rfl, rfl, rfl, rfl⟩, ⟨Tryz.underlying23, Tryz.underlying23, Tryz.underlying23, Tryz.underlying23⟩, Tryz.underlying24, Tryz.underlying24, fun W => by kernel_rfl, fun W => by kernel_rfl⟩, by kernel_rfl⟩
theorem Hd.prev_at (h : Hd) : h.cells.toArray.extract 1 (1 + 32) = (cellsL h.prev).toArray := by
  have hl : (cellsL h.prev).length = 32 := by rw [cellsL_len, h.hp]
  simp only [Hd.cells, List.extract_toArray, List.extract]
  simp [hl]
theorem Hd.root_at (h : Hd) : h.cells.toArray.extract 33 (33 + 32) = (cellsL h.root).toArray := by
  have hl : (cellsL h.prev).length = 32 := by rw [cellsL_len, h.hp]
  have hm : (cellsL h.root).length = 32 := by rw [cellsL_len, h.hr]
  simp only [Hd.cells, List.extract_toArray, List.extract]
  rw [show 33 = 32 + 1 from rfl, List.drop_succ_cons, ← hl, List.drop_left, show (cellsL h.prev).length + 1 + (cellsL h.prev).length - ((cellsL h.prev).length + 1) = (cellsL h.root).length by omega, List.take_left]
theorem eqHd {t : TypeId} (F : FHd t) (h : Hd) (W : World) : (Op.equalIn 10000 t (.agg h.cells.toArray) (.agg h.cells.toArray)).run Tryz.prog W = .ok true W := by
  obtain ⟨⟨f0, f1, f2, f3, f4, f5, hu, ⟨n0, n1, n2, n3, n4, n5⟩, ⟨o0, o1, o2, o3, o4, o5⟩, ⟨u0, u3, u4, u5⟩, u1, u2, s1, s2⟩, st⟩ := F
  have hf : Tryz.prog.fieldsOf t = #[f0, f1, f2, f3, f4, f5] := by simp [Program.fieldsOf, hu]
  refine (run_equalIn_struct W 9999 t _ _ (by rw [hf]; exact hu) st).trans ?_
  rw [hf]
  have c0 : h.cells.toArray[0]? = some (.int .u32 (h.ver.toNat : Int)) := by rw [List.getElem?_toArray]; exact h.get0
  have c3 : h.cells.toArray[65]? = some (.int .u32 (h.time.toNat : Int)) := by rw [List.getElem?_toArray]; exact h.getL 0
  have c4 : h.cells.toArray[66]? = some (.int .u32 (h.bits.toNat : Int)) := by rw [List.getElem?_toArray]; exact h.getL 1
  have c5 : h.cells.toArray[67]? = some (.int .u32 (h.nonce.toNat : Int)) := by rw [List.getElem?_toArray]; exact h.getL 2
  have e5 := eqF_cons (W := W) (d := 9999) (xs := h.cells.toArray) (ys := h.cells.toArray) n5 (part_cell u5 rfl (by rw [o5]; exact c5)) (part_cell u5 rfl (by rw [o5]; exact c5)) (run_equalIn_int W 9998 f5.type .u32 .u32 _ _ u5) (fs := []) (r2 := true) rfl
  have e4 := eqF_cons (W := W) (d := 9999) (xs := h.cells.toArray) (ys := h.cells.toArray) n4 (part_cell u4 rfl (by rw [o4]; exact c4)) (part_cell u4 rfl (by rw [o4]; exact c4)) (run_equalIn_int W 9998 f4.type .u32 .u32 _ _ u4) e5
  have e3 := eqF_cons (W := W) (d := 9999) (xs := h.cells.toArray) (ys := h.cells.toArray) n3 (part_cell u3 rfl (by rw [o3]; exact c3)) (part_cell u3 rfl (by rw [o3]; exact c3)) (run_equalIn_int W 9998 f3.type .u32 .u32 _ _ u3) e4
  have e2 := eqF_cons (W := W) (d := 9999) (xs := h.cells.toArray) (ys := h.cells.toArray) n2 (part_row u2 rfl (s2 W) (by rw [o2]; exact h.root_at)) (part_row u2 rfl (s2 W) (by rw [o2]; exact h.root_at)) (eqC_bytes h.root h.root 32 h.hr h.hr f2.type u2 9997 W) e3
  have e1 := eqF_cons (W := W) (d := 9999) (xs := h.cells.toArray) (ys := h.cells.toArray) n1 (part_row u1 rfl (s1 W) (by rw [o1]; exact h.prev_at)) (part_row u1 rfl (s1 W) (by rw [o1]; exact h.prev_at)) (eqC_bytes h.prev h.prev 32 h.hp h.hp f1.type u1 9997 W) e2
  have e0 := eqF_cons (W := W) (d := 9999) (xs := h.cells.toArray) (ys := h.cells.toArray) n0 (part_cell u0 rfl (by rw [o0]; exact c0)) (part_cell u0 rfl (by rw [o0]; exact c0)) (run_equalIn_int W 9998 f0.type .u32 .u32 _ _ u0) e1
  simpa using e0
section
variable {S : World → Prop} {ops : Array Oper} {o : Oper} {a : Act}
theorem yl_eqlB (hw : Region.wanted o (yielded ops a.tmps) = true) (t : TypeId) (x y : Operand) (t2 : TypeId) (ho : o.op = .binOp .eql t x y t2) (c d : Array Value) (hx : a.eval x = .agg c) (hy : a.eval y = .agg d) (hg : Tryz.prog.eqGuardType Tryz.prog.depth t = false)
    (v : Bool) (hr : ∀ W, (Op.equalIn 10000 t (.agg c) (.agg d)).run Tryz.prog W = .ok v W) : YieldsIf Tryz.prog ops S o (.bool v) a :=
  .inl ⟨hw, fun W _ => by
    unfold execOp
    simp only [ho, hx, hy, Sem.run_bind, run_eqGuard_agg (P := Tryz.prog) W .eql t x y c d hg, run_eql_struct, hr W, Result.andThen_ok, Sem.run_pure]⟩
end
section
set_option maxRecDepth 10000
set_option maxHeartbeats 8000000
end
end Go.Proofs.YtofddbjnncgmlabGreatDoor
namespace Go.Proofs.YtofddbjnncgmlabGreatDoor
open Go.RowKit
open Go.Deep
open Go.Maps
set_option linter.unusedVariables false
/-- A node. -/
structure Tno where
  id : List UInt8
  h : Hd
  ht : Nat
  od : Nat
  wk : Nat
  bd : Bool
  wh : Bool
  bad : Bool
  tu : Nat
  pa : Nat
  sk : Nat
  yo : Nat
  el : Nat
  hi : id.length = 32
def Tno.mid (x : Tno) : List Value := [.int .i64 (x.ht : Int), .int .i64 (x.od : Int)]
def Tno.flg (x : Tno) : List Value := [.bool x.bd, .bool x.wh, .bool x.bad, .int .i64 (x.tu : Int)]
def Tno.ptr (x : Tno) : List Value := [.int .i64 (x.pa : Int), .int .i64 (x.sk : Int), .int .i64 (x.yo : Int), .int .i64 (x.el : Int)]
/-- What is told of a node. -/
def Tno.pub (x : Tno) : List Value := cellsL x.id ++ (x.h.cells ++ (x.mid ++ ((wn x.wk).toList ++ x.flg)))
def Tno.cells (x : Tno) : List Value := x.pub ++ x.ptr
theorem wn_len (n : Nat) : (wn n).toList.length = 4 := by rw [Array.length_toList]; exact wn_size n
theorem Tno.pub_len (x : Tno) : x.pub.length = 110 := by
  simp only [Tno.pub, List.length_append, cellsL_len, x.hi, x.h.len, wn_len]
  rfl
theorem Tno.len (x : Tno) : x.cells.length = 114 := by rw [Tno.cells, List.length_append, x.pub_len]; rfl
theorem cellsL_one14 (l : List UInt8) : ∀ v ∈ cellsL l, v.oneCell' = true := by
  intro v hv
  simp only [cellsL, List.mem_map] at hv
  obtain ⟨b, _, rfl⟩ := hv
  rfl
theorem wnL_one (n : Nat) : ∀ v ∈ (wn n).toList, v.oneCell' = true := by
  intro v hv
  have := wn_one n
  rw [Array.all_eq_true_iff_forall_mem] at this
  exact this v (by simpa using hv)
theorem Tno.pub_one (x : Tno) : ∀ v ∈ x.pub, v.oneCell' = true := by
  intro v hv
  simp only [Tno.pub, List.mem_append] at hv
  rcases hv with h | h | h | h | h
  · exact cellsL_one14 _ v h
  · exact x.h.one v h
  · simp only [Tno.mid, List.mem_cons, List.not_mem_nil, or_false] at h
    rcases h with rfl | rfl <;> rfl
  · exact wnL_one _ v h
  · simp only [Tno.flg, List.mem_cons, List.not_mem_nil, or_false] at h
    rcases h with rfl | rfl | rfl | rfl <;> rfl
theorem Tno.one (x : Tno) : ∀ v ∈ x.cells, v.oneCell' = true := by
  intro v hv
  rcases List.mem_append.1 hv with h | h
  · exact x.pub_one v h
  · simp only [Tno.ptr, List.mem_cons, List.not_mem_nil, or_false] at h
    rcases h with rfl | rfl | rfl | rfl <;> rfl
theorem all_of_one {l : List Value} (h : ∀ v ∈ l, v.oneCell' = true) : l.toArray.all (·.oneCell') = true := by
  rw [Array.all_eq_true_iff_forall_mem]
  intro v hv
  exact h v (by simpa using hv)
theorem Tno.pubA_size (x : Tno) : x.pub.toArray.size = 110 := by rw [List.size_toArray, x.pub_len]
theorem Tno.pubA_all (x : Tno) : x.pub.toArray.all (·.oneCell') = true := all_of_one x.pub_one
theorem Tno.size (x : Tno) : x.cells.toArray.size = 114 := by rw [List.size_toArray, x.len]
theorem Tno.all (x : Tno) : x.cells.toArray.all (·.oneCell') = true := all_of_one x.one
def zTno : Tno := ⟨zeros, zHd, 0, 0, 0, false, false, false, 0, 0, 0, 0, 0, zeros_len⟩
section
variable {W : World} {g off : Nat} (x : Tno) (r : W.rangeAt g off x.cells)
include r
theorem Tno.rpub : W.rangeAt g off x.pub := fun j v hv => r j v (by
  rw [Tno.cells, List.getElem?_append_left (List.getElem?_eq_some_iff.1 hv).1]; exact hv)
theorem Tno.rptr (j : Nat) (v : Value) (hv : x.ptr[j]? = some v) : W.cell? ⟨g, off + (110 + j), none⟩ = some v := r (110 + j) v (by
  rw [Tno.cells, List.getElem?_append_right (by rw [x.pub_len]; omega), x.pub_len, show 110 + j - 110 = j by omega]; exact hv)
theorem Tno.rid : W.rangeAt g off (cellsL x.id) := fun j v hv => x.rpub r j v (by
  rw [Tno.pub, List.getElem?_append_left (List.getElem?_eq_some_iff.1 hv).1]; exact hv)
theorem Tno.rhd : W.rangeAt g (off + 32) x.h.cells := fun j v hv => by
  have := x.rpub r (32 + j) v (by
    rw [Tno.pub, List.getElem?_append_right (by rw [cellsL_len, x.hi]; omega), cellsL_len, x.hi, show 32 + j - 32 = j by omega, List.getElem?_append_left (List.getElem?_eq_some_iff.1 hv).1]; exact hv)
  rw [show off + 32 + j = off + (32 + j) by omega]
  exact this
theorem Tno.rmid (j : Nat) (v : Value) (hv : x.mid[j]? = some v) : W.cell? ⟨g, off + (100 + j), none⟩ = some v := x.rpub r (100 + j) v (by
  rw [Tno.pub, List.getElem?_append_right (by rw [cellsL_len, x.hi]; omega), cellsL_len, x.hi, List.getElem?_append_right (by rw [x.h.len]; omega), x.h.len, show 100 + j - 32 - 68 = j by omega, List.getElem?_append_left (List.getElem?_eq_some_iff.1 hv).1]; exact hv)
theorem Tno.rwk : W.rangeAt g (off + 102) (wn x.wk).toList := fun j v hv => by
  have := x.rpub r (102 + j) v (by
    rw [Tno.pub, List.getElem?_append_right (by rw [cellsL_len, x.hi]; omega), cellsL_len, x.hi, List.getElem?_append_right (by rw [x.h.len]; omega), x.h.len, List.getElem?_append_right (by show 2 ≤ _; omega), show 102 + j - 32 - 68 - x.mid.length = j by show 102 + j - 32 - 68 - 2 = j; omega, List.getElem?_append_left (List.getElem?_eq_some_iff.1 hv).1]; exact hv)
  rw [show off + 102 + j = off + (102 + j) by omega]
  exact this
theorem Tno.rflg (j : Nat) (v : Value) (hv : x.flg[j]? = some v) : W.cell? ⟨g, off + (106 + j), none⟩ = some v := x.rpub r (106 + j) v (by
  rw [Tno.pub, List.getElem?_append_right (by rw [cellsL_len, x.hi]; omega), cellsL_len, x.hi, List.getElem?_append_right (by rw [x.h.len]; omega), x.h.len, List.getElem?_append_right (by show 2 ≤ _; omega), show 106 + j - 32 - 68 - x.mid.length = 4 + j by show 106 + j - 32 - 68 - 2 = 4 + j; omega, List.getElem?_append_right (by rw [wn_len]; omega), wn_len, show 4 + j - 4 = j by omega]; exact hv)
theorem Tno.cht : W.cell? ⟨g, off + 100, none⟩ = some (.int .i64 (x.ht : Int)) := x.rmid r 0 _ rfl
theorem Tno.cod : W.cell? ⟨g, off + 101, none⟩ = some (.int .i64 (x.od : Int)) := x.rmid r 1 _ rfl
theorem Tno.cbd : W.cell? ⟨g, off + 106, none⟩ = some (.bool x.bd) := x.rflg r 0 _ rfl
theorem Tno.cwh : W.cell? ⟨g, off + 107, none⟩ = some (.bool x.wh) := x.rflg r 1 _ rfl
theorem Tno.cbad : W.cell? ⟨g, off + 108, none⟩ = some (.bool x.bad) := x.rflg r 2 _ rfl
theorem Tno.ctu : W.cell? ⟨g, off + 109, none⟩ = some (.int .i64 (x.tu : Int)) := x.rflg r 3 _ rfl
theorem Tno.cpa : W.cell? ⟨g, off + 110, none⟩ = some (.int .i64 (x.pa : Int)) := x.rptr r 0 _ rfl
theorem Tno.csk : W.cell? ⟨g, off + 111, none⟩ = some (.int .i64 (x.sk : Int)) := x.rptr r 1 _ rfl
theorem Tno.cyo : W.cell? ⟨g, off + 112, none⟩ = some (.int .i64 (x.yo : Int)) := x.rptr r 2 _ rfl
theorem Tno.cel : W.cell? ⟨g, off + 113, none⟩ = some (.int .i64 (x.el : Int)) := x.rptr r 3 _ rfl
end
theorem keyTH14 : Tryz.prog.keyType 25 = true := by kernel_rfl
theorem lawH14 : Keyed Tryz.prog 25 := Keyed.of_law (deep_law_laid laidOutP (m := 2) (by omega) (of_decide_eq_true (by kernel_rfl)) (by kernel_rfl) (by kernel_rfl))
theorem zeroI14 (w : World) : (zeroValue 3).run Tryz.prog w = .ok (.int .i64 0) w := by kernel_rfl
theorem keyH14 (l : List UInt8) (hl : l.length = 32) : keyOf Tryz.prog 25 (.agg (hc l)) = some (.string l) := by
  obtain ⟨d, hd⟩ : ∃ d, Tryz.prog.types.size = d + 1 := ⟨Tryz.prog.types.size - 1, by have : 0 < Tryz.prog.types.size := of_decide_eq_true (by kernel_rfl); omega⟩
  unfold keyOf
  simp only [Tryz.underlying25]
  rw [if_pos (by simp [keyTH14, Value.formed, Tryz.underlying25, cellsPH, hc_size, hl]), hd]
  have hcl : (hc l).toList = cellsL l := by simp [hc]
  simp only [Value.cells]
  rw [hcl, litsHP d l hl]
  simp only [Option.map_some]
  congr 2
  rw [keyBytes, keyHB]
/-- A map of ids to places. -/
abbrev OmI (W : World) (b n : Nat) (D : DataW Unit) : Prop := W.ownsMap Tryz.prog 25 (plainElem Tryz.prog 3) b n D
theorem look14 {W : World} {b n : Nat} {D : DataW Unit} (h : OmI W b n D) (l : List UInt8) (hl : l.length = 32) (c : Int) (hat : D.atKey (.string l) (.lit (.int .i64 0)) = .lit (.int .i64 c)) : (Instr.lookup 111 (.map (some b)) (.agg (hc l)) true).run Tryz.prog W = .ok (.tuple #[.int .i64 c, .bool (Maps.has D (.string l))]) W := by
  obtain ⟨v, ps, hrun, hv⟩ := h.look_ok lawH14 Tryz.underlying111 (zeroI14 W) (zd := .lit (.int .i64 0)) (zp := []) (plainElem_int Tryz.underlying3 (by decide)) (keyH14 l hl)
  obtain ⟨c', rfl, hc', hwc⟩ := plainElem_int_inv Tryz.underlying3 hv
  have e := congrArg Prod.fst hc'
  simp only at e
  rw [hat] at e
  have : c = c' := by simpa using e
  rw [this]
  exact hrun
theorem OmI.of_block {W W' : World} {b n : Nat} {D : DataW Unit} (h : OmI W b n D) (e : W'.heap[b]? = W.heap[b]?) : OmI W' b n D := by
  obtain ⟨es, clock, hb, F, hs, rfl⟩ := h
  exact ⟨es, clock, e.trans hb, F, hs, rfl⟩
theorem OmI.lt {W : World} {b n : Nat} {D : DataW Unit} (h : OmI W b n D) : b < W.heap.size := by
  obtain ⟨es, clock, hb, F, hs, rfl⟩ := h
  exact lt_heap hb
/-- w' is w but for blocks of S and new ones. -/
structure Frt (S : Nat → Prop) (w w' : World) : Prop where
  os : w'.os = w.os
  tape : w'.tape = w.tape
  output : w'.output = w.output
  size : w.heap.size ≤ w'.heap.size
  block : ∀ k, k < w.heap.size → ¬ S k → w'.heap[k]? = w.heap[k]?
theorem Frt.refl (S : Nat → Prop) (w : World) : Frt S w w := ⟨rfl, rfl, rfl, Nat.le_refl _, fun _ _ _ => rfl⟩
theorem Frt.mono {S S' : Nat → Prop} {w w' : World} (h : Frt S w w') (hs : ∀ g, S g → S' g) : Frt S' w w' := ⟨h.os, h.tape, h.output, h.size, fun k hk hn => h.block k hk fun e => hn (hs k e)⟩
theorem Frt.trans' {S : Nat → Prop} {w w1 w2 : World} (h : Frt S w w1) (k : Frt S w1 w2) : Frt S w w2 := ⟨k.os.trans h.os, k.tape.trans h.tape, k.output.trans h.output, Nat.le_trans h.size k.size, fun q hq hn => (k.block q (Nat.lt_of_lt_of_le hq h.size) hn).trans (h.block q hq hn)⟩
theorem Frt.of_below {S : Nat → Prop} {w w' : World} (h : Below w.heap.size w w') : Frt S w w' := ⟨h.os, h.tape, h.output, h.size, fun k hk _ => h.block k hk⟩
theorem Frt.next {S : Nat → Prop} {B w w' : World} (h : Frt S B w) (b : Below w.heap.size w w') : Frt S B w' := h.trans' (Frt.of_below b)
theorem Frt.of_grown {S : Nat → Prop} {w w' : World} {row : Option Nat} (h : w.grownBy w' row) (hr : ∀ g, row = some g → S g) : Frt S w w' := ⟨h.os, h.tape, h.output, h.size, fun k hk hn => h.block k hk fun e => hn (hr k e.symm)⟩
theorem Frt.setCell {S : Nat → Prop} (w : World) {p : Addr} (hp : S p.block) (v : Value) : Frt S w (w.setCell p v) := ⟨rfl, rfl, rfl, by simp [World.setCell], fun k _ hn => Below.heap_setCell _ _ _ _ (fun e => hn (by rw [e]; exact hp))⟩
def trA (gm : Nat) (ve : Value) (tu be bh : Nat) : Array Value := #[.map (some gm), ve, .int .i64 (tu : Int), .int .i64 (be : Int), .int .i64 (bh : Int)]
section
variable {B W W' : World} {gt gm n : Nat} {D : DataW Unit} {ve : Value} {L : List Tno} {tu be bh : Nat}
end
section
variable {S : World → Prop} {ops : Array Oper} {o : Oper} {a : Act}
theorem yl_look14 (hw : Region.wanted o (yielded ops a.tmps) = true) (t : TypeId) (m x : Operand) (ho : o.op = .lookup t m x true) (vm vx : Value) (hm : a.eval m = vm) (hx : a.eval x = vx) (r : Value) (hr : ∀ W, S W → (Instr.lookup t vm vx true).run Tryz.prog W = .ok r W) : YieldsIf Tryz.prog ops S o r a :=
  .inl ⟨hw, fun W hW => by
    unfold execOp
    simp only [ho, hm, hx, hr W hW, Sem.run_bind, Result.andThen_ok, Sem.run_pure]⟩
end
end Go.Proofs.YtofddbjnncgmlabGreatDoor
