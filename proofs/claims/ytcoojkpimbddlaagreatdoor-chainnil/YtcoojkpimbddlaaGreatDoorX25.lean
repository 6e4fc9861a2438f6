/- The document's TakeHead: its contract. The walk of BlockHeads. Points as keys of a map. Nodes of a tree of headers: their cells; the map of ids. -/
import Derived.Test.YtcoojkpimbddlaaGreatDoorX24
import Derived.Test.YtcoojkpimbddlaaGreatDoorX22
import Derived.Maps.OwnSet
import Derived.Maps.OwnOps
import Derived.DeepKeys4
import Derived.Test.YtcoojkpimbddlaaGreatDoorX09
namespace Go.Proofs.YtcoojkpimbddlaaGreatDoor
open Go.RowKit
open Go.Deep
set_option linter.unusedVariables false
section
set_option maxRecDepth 10000
set_option maxHeartbeats 4000000
end
structure FHd (t : TypeId) : Prop where
  ex : ∃ f0 f1 f2 f3 f4 f5, Tryz.prog.underlying t = some (.struct #[f0, f1, f2, f3, f4, f5]) ∧ (f0.name ≠ "_" ∧ f1.name ≠ "_" ∧ f2.name ≠ "_" ∧ f3.name ≠ "_" ∧ f4.name ≠ "_" ∧ f5.name ≠ "_") ∧ (f0.offset = 0 ∧ f1.offset = 1 ∧ f2.offset = 33 ∧ f3.offset = 65 ∧ f4.offset = 66 ∧ f5.offset = 67) ∧
    (Tryz.prog.underlying f0.type = some (.int .u32) ∧ Tryz.prog.underlying f3.type = some (.int .u32) ∧ Tryz.prog.underlying f4.type = some (.int .u32) ∧ Tryz.prog.underlying f5.type = some (.int .u32)) ∧ Tryz.prog.underlying f1.type = some (.array 32 5) ∧ Tryz.prog.underlying f2.type = some (.array 32 5) ∧ (∀ W, (sizeOf f1.type).run Tryz.prog W = .ok 32 W) ∧ (∀ W, (sizeOf f2.type).run Tryz.prog W = .ok 32 W)
  st : Tryz.prog.stoodInHeld t = false
section
variable {S : World → Prop} {ops : Array Oper} {o : Oper} {a : Act}
theorem yl_eqlB (hw : Region.wanted o (yielded ops a.tmps) = true) (t : TypeId) (x y : Operand) (t2 : TypeId) (ho : o.op = .binOp .eql t x y t2) (c d : Array Value) (hx : a.eval x = .agg c) (hy : a.eval y = .agg d) (hg : Tryz.prog.eqGuardType Tryz.prog.depth t = false)
    (v : Bool) (hr : ∀ W, (Op.equalIn 10000 t (.agg c) (.agg d)).run Tryz.prog W = .ok v W) : YieldsIf Tryz.prog ops S o (.bool v) a :=
  .inl ⟨hw, fun W _ => by
    unfold execOp
    simp only [ho, hx, hy, Sem.run_bind, run_eqGuard_agg (P := Tryz.prog) W .eql t x y c d hg, run_eql_struct, hr W, Result.andThen_ok, Sem.run_pure]⟩
end
section
set_option maxRecDepth 10000
set_option maxHeartbeats 8000000
end
end Go.Proofs.YtcoojkpimbddlaaGreatDoor
namespace Go.Proofs.YtcoojkpimbddlaaGreatDoor
open Go.RowKit
open Go.Deep
open Go.Maps
theorem laidOutP : laidOutB Tryz.prog = true := by kernel_rfl
theorem cellsP8 : Tryz.prog.cellsOf 5 = 1 := by kernel_rfl
theorem cellsP32 : Tryz.prog.cellsOf 31 = 1 := by kernel_rfl
theorem cellsPH : Tryz.prog.cellsOf 46 = 32 := by kernel_rfl
theorem cellsPP : Tryz.prog.cellsOf 160 = 33 := by kernel_rfl
theorem keyTP : Tryz.prog.keyType 160 = true := by kernel_rfl
theorem lawP : Keyed Tryz.prog 160 := Keyed.of_law (deep_law_laid laidOutP (m := 3) (by omega) (of_decide_eq_true (by kernel_rfl)) (by kernel_rfl) (by kernel_rfl))
theorem zeroSP (w : World) : (zeroValue 381).run Tryz.prog w = .ok (.agg #[]) w := by kernel_rfl
theorem mapM_someP {α β : Type} (f : α → Option β) (g : α → β) (r : List α) (h : ∀ i ∈ r, f i = some (g i)) : r.mapM f = some (r.map g) := by
  induction r with
  | nil => rfl
  | cons a r ih =>
    rw [List.mapM_cons, h a (by simp), ih (fun i hi => h i (by simp [hi]))]
    rfl
theorem lits_atP (d : Nat) (l : List UInt8) (i : Nat) (hi : i < l.length) : Tryz.prog.keyLits (d + 1) 5 (((cellsL l).drop (i * 1)).take 1) = some [.int .u8 ((l.getD i 0).toNat : Int)] := by
  have hc : (cellsL l).length = l.length := cellsL_len l
  have hb := (l.getD i 0).toNat_lt
  have e : ((cellsL l).drop (i * 1)).take 1 = [.int .u8 ((l.getD i 0).toNat : Int)] := by
    rw [Nat.mul_one, List.drop_eq_getElem_cons (by omega)]
    simp [cellsL, hi]
  rw [e]
  generalize l.getD i 0 = b at *
  unfold Program.keyLits
  simp only [Tryz.underlying5]
  rw [if_pos]
  exact ⟨trivial, by simp [Lit.wf, IntKind.min, IntKind.max, IntKind.signed, IntKind.bits]; omega⟩
theorem range_getDP (l : List UInt8) : (List.range l.length).map (fun i => l.getD i 0) = l := by
  apply List.ext_getElem
  · simp
  · intro i h1 h2
    simp [h2]
theorem bytes_oneP (b : UInt8) : Lit.keyBytes (.int .u8 (b.toNat : Int)) = [b] := by
  have := b.toNat_lt
  have e : ((b.toNat : Int) % 2 ^ IntKind.u8.bits).toNat = b.toNat := by
    simp only [IntKind.bits]
    omega
  simp only [Lit.keyBytes]
  rw [e]
  simp only [IntKind.bits, bytesBE, bytesLE]
  simp
theorem litsHP (d : Nat) (l : List UInt8) (hl : l.length = 32) : Tryz.prog.keyLits (d + 2) 46 (cellsL l) = some (l.map fun b => Lit.int .u8 (b.toNat : Int)) := by
  unfold Program.keyLits
  simp only [Tryz.underlying46]
  rw [if_pos (by rw [cellsL_len, hl, cellsPH]), cellsP8, mapM_someP _ (fun i => [Lit.int .u8 ((l.getD i 0).toNat : Int)]) _ (fun i hi => lits_atP d l i (by rw [hl]; simpa using hi))]
  simp only [Option.map_some]
  congr 1
  rw [← hl]
  conv => rhs; rw [← range_getDP l]
  generalize List.range l.length = r
  induction r with
  | nil => rfl
  | cons a r ih =>
    simp only [List.map_cons, List.flatten_cons]
    rw [ih]
    rfl
theorem lits32P (d : Nat) (n : UInt32) : Tryz.prog.keyLits (d + 1) 31 [.int .u32 (n.toNat : Int)] = some [.int .u32 (n.toNat : Int)] := by
  have := n.toNat_lt
  unfold Program.keyLits
  simp only [Tryz.underlying31]
  rw [if_pos]
  exact ⟨trivial, by simp [Lit.wf, IntKind.min, IntKind.max, IntKind.signed, IntKind.bits]; omega⟩
def Tp.keyB (p : Tp) : List UInt8 := p.hash ++ Lit.keyBytes (.int .u32 (p.idx.toNat : Int))
theorem keyHB (l : List UInt8) : (l.map fun b => Lit.int .u8 (b.toNat : Int)).flatMap Lit.keyBytes = l := by
  induction l with
  | nil => rfl
  | cons b r ih => rw [List.map_cons, List.flatMap_cons, bytes_oneP, ih]; rfl
theorem litsPP (d : Nat) (p : Tp) : Tryz.prog.keyLits (d + 3) 160 p.cells = some ((p.hash.map fun b => Lit.int .u8 (b.toNat : Int)) ++ [.int .u32 (p.idx.toNat : Int)]) := by
  have hh : (cellsL p.hash).length = 32 := by rw [cellsL_len, p.hh]
  have e0 : (p.cells.drop 0).take 32 = cellsL p.hash := by rw [Tp.cells, List.drop_zero, List.take_append_of_le_length (by omega), List.take_of_length_le (by omega)]
  have e1 : (p.cells.drop 32).take 1 = [.int .u32 (p.idx.toNat : Int)] := by rw [Tp.cells, List.drop_append_of_le_length (by omega), List.drop_of_length_le (by omega)]; rfl
  unfold Program.keyLits
  simp only [Tryz.underlying160]
  rw [if_pos (by rw [p.len, cellsPP]; exact ⟨rfl, by simp⟩)]
  simp only [List.mapM_cons, List.mapM_nil, cellsPH, cellsP32, e0, e1, litsHP d p.hash p.hh, lits32P (d + 1) p.idx]
  rfl
theorem keyP (p : Tp) : keyOf Tryz.prog 160 (.agg p.cells.toArray) = some (.string p.keyB) := by
  obtain ⟨d, hd⟩ : ∃ d, Tryz.prog.types.size = d + 2 := ⟨Tryz.prog.types.size - 2, by have : 1 < Tryz.prog.types.size := of_decide_eq_true (by kernel_rfl); omega⟩
  unfold keyOf
  simp only [Tryz.underlying160]
  rw [if_pos (by simp [keyTP, Value.formed, Tryz.underlying160, cellsPP, p.len]), hd]
  simp only [Value.cells]
  rw [litsPP d p]
  simp only [Option.map_some, keyBytes, List.flatMap_append, keyHB, Tp.keyB, List.flatMap_cons, List.flatMap_nil, List.append_nil]
theorem be_inj (a b : UInt32) (h : Lit.keyBytes (.int .u32 (a.toNat : Int)) = Lit.keyBytes (.int .u32 (b.toNat : Int))) : a = b := by
  have ha := a.toNat_lt
  have hb := b.toNat_lt
  have ea : ((a.toNat : Int) % 2 ^ IntKind.u32.bits).toNat = a.toNat := by
    simp only [IntKind.bits]
    omega
  have eb : ((b.toNat : Int) % 2 ^ IntKind.u32.bits).toNat = b.toNat := by
    simp only [IntKind.bits]
    omega
  apply UInt32.toNat_inj.1
  simp only [Lit.keyBytes] at h
  rw [ea, eb] at h
  clear ea eb
  generalize a.toNat = x at *
  generalize b.toNat = y at *
  simp only [IntKind.bits, bytesBE, bytesLE] at h
  simp at h
  obtain ⟨h3, h2, h1, h0⟩ := h
  have g3 := congrArg UInt8.toNat h3
  have g2 := congrArg UInt8.toNat h2
  have g1 := congrArg UInt8.toNat h1
  have g0 := congrArg UInt8.toNat h0
  simp only [UInt8.toNat_ofNat'] at g3 g2 g1 g0
  omega
theorem Tp.keyB_inj (p q : Tp) (h : p.keyB = q.keyB) : p = q := by
  obtain ⟨a, b, ha⟩ := p
  obtain ⟨c, d, hc⟩ := q
  simp only [Tp.keyB] at h
  obtain ⟨h1, h2⟩ := List.append_inj h (by rw [ha, hc])
  have h3 := be_inj _ _ h2
  subst h1 h3
  rfl
end Go.Proofs.YtcoojkpimbddlaaGreatDoor
namespace Go.Proofs.YtcoojkpimbddlaaGreatDoor
open Go.RowKit
open Go.Deep
open Go.Maps
set_option linter.unusedVariables false
structure Tno where
  id : List UInt8
  h : Hd
  ht : Nat
  od : Nat
  wk : Nat
  bd : Bool
  wh : Bool
  bad : Bool
  tu : Nat
  pa : Nat
  sk : Nat
  yo : Nat
  el : Nat
  hi : id.length = 32
def Tno.mid (x : Tno) : List Value := [.int .i64 (x.ht : Int), .int .i64 (x.od : Int)]
def Tno.flg (x : Tno) : List Value := [.bool x.bd, .bool x.wh, .bool x.bad, .int .i64 (x.tu : Int)]
def Tno.ptr (x : Tno) : List Value := [.int .i64 (x.pa : Int), .int .i64 (x.sk : Int), .int .i64 (x.yo : Int), .int .i64 (x.el : Int)]
def Tno.pub (x : Tno) : List Value := cellsL x.id ++ (x.h.cells ++ (x.mid ++ ((wn x.wk).toList ++ x.flg)))
def Tno.cells (x : Tno) : List Value := x.pub ++ x.ptr
theorem wn_len (n : Nat) : (wn n).toList.length = 4 := by rw [Array.length_toList]; exact wn_size n
theorem Tno.pub_len (x : Tno) : x.pub.length = 110 := by
  simp only [Tno.pub, List.length_append, cellsL_len, x.hi, x.h.len, wn_len]
  rfl
theorem Tno.len (x : Tno) : x.cells.length = 114 := by rw [Tno.cells, List.length_append, x.pub_len]; rfl
theorem cellsL_one14 (l : List UInt8) : ∀ v ∈ cellsL l, v.oneCell' = true := by
  intro v hv
  simp only [cellsL, List.mem_map] at hv
  obtain ⟨b, _, rfl⟩ := hv
  rfl
theorem wnL_one (n : Nat) : ∀ v ∈ (wn n).toList, v.oneCell' = true := by
  intro v hv
  have := wn_one n
  rw [Array.all_eq_true_iff_forall_mem] at this
  exact this v (by simpa using hv)
theorem Tno.pub_one (x : Tno) : ∀ v ∈ x.pub, v.oneCell' = true := by
  intro v hv
  simp only [Tno.pub, List.mem_append] at hv
  rcases hv with h | h | h | h | h
  · exact cellsL_one14 _ v h
  · exact x.h.one v h
  · simp only [Tno.mid, List.mem_cons, List.not_mem_nil, or_false] at h
    rcases h with rfl | rfl <;> rfl
  · exact wnL_one _ v h
  · simp only [Tno.flg, List.mem_cons, List.not_mem_nil, or_false] at h
    rcases h with rfl | rfl | rfl | rfl <;> rfl
theorem Tno.one (x : Tno) : ∀ v ∈ x.cells, v.oneCell' = true := by
  intro v hv
  rcases List.mem_append.1 hv with h | h
  · exact x.pub_one v h
  · simp only [Tno.ptr, List.mem_cons, List.not_mem_nil, or_false] at h
    rcases h with rfl | rfl | rfl | rfl <;> rfl
theorem all_of_one {l : List Value} (h : ∀ v ∈ l, v.oneCell' = true) : l.toArray.all (·.oneCell') = true := by
  rw [Array.all_eq_true_iff_forall_mem]
  intro v hv
  exact h v (by simpa using hv)
theorem Tno.pubA_size (x : Tno) : x.pub.toArray.size = 110 := by rw [List.size_toArray, x.pub_len]
theorem Tno.pubA_all (x : Tno) : x.pub.toArray.all (·.oneCell') = true := all_of_one x.pub_one
theorem Tno.size (x : Tno) : x.cells.toArray.size = 114 := by rw [List.size_toArray, x.len]
theorem Tno.all (x : Tno) : x.cells.toArray.all (·.oneCell') = true := all_of_one x.one
def zTno : Tno := ⟨zeros, zHd, 0, 0, 0, false, false, false, 0, 0, 0, 0, 0, zeros_len⟩
theorem ANo : Arr 53 110 zTno.pub.toArray := ⟨.inr ⟨_, Tryz.underlying53⟩, by kernel_rfl, fun w => by kernel_rfl, fun w => by kernel_rfl, by rw [List.size_toArray, Tno.pub_len]⟩
theorem ANn : Arr 120 114 zTno.cells.toArray := ⟨.inr ⟨_, Tryz.underlying120⟩, by kernel_rfl, fun w => by kernel_rfl, fun w => by kernel_rfl, by rw [List.size_toArray, Tno.len]⟩
def KNo : Ek Tno := ⟨121, 120, 114, 208, Tno.cells, by decide, by decide, Tryz.underlying121, by kernel_rfl, Tno.len, Tno.one⟩
section
variable {W : World} {g off : Nat} (x : Tno) (r : W.rangeAt g off x.cells)
include r
theorem Tno.rpub : W.rangeAt g off x.pub := fun j v hv => r j v (by
  rw [Tno.cells, List.getElem?_append_left (List.getElem?_eq_some_iff.1 hv).1]; exact hv)
theorem Tno.rptr (j : Nat) (v : Value) (hv : x.ptr[j]? = some v) : W.cell? ⟨g, off + (110 + j), none⟩ = some v := r (110 + j) v (by
  rw [Tno.cells, List.getElem?_append_right (by rw [x.pub_len]; omega), x.pub_len, show 110 + j - 110 = j by omega]; exact hv)
theorem Tno.rid : W.rangeAt g off (cellsL x.id) := fun j v hv => x.rpub r j v (by
  rw [Tno.pub, List.getElem?_append_left (List.getElem?_eq_some_iff.1 hv).1]; exact hv)
theorem Tno.rhd : W.rangeAt g (off + 32) x.h.cells := fun j v hv => by
  have := x.rpub r (32 + j) v (by
    rw [Tno.pub, List.getElem?_append_right (by rw [cellsL_len, x.hi]; omega), cellsL_len, x.hi, show 32 + j - 32 = j by omega, List.getElem?_append_left (List.getElem?_eq_some_iff.1 hv).1]; exact hv)
  rw [show off + 32 + j = off + (32 + j) by omega]
  exact this
theorem Tno.rmid (j : Nat) (v : Value) (hv : x.mid[j]? = some v) : W.cell? ⟨g, off + (100 + j), none⟩ = some v := x.rpub r (100 + j) v (by
  rw [Tno.pub, List.getElem?_append_right (by rw [cellsL_len, x.hi]; omega), cellsL_len, x.hi, List.getElem?_append_right (by rw [x.h.len]; omega), x.h.len, show 100 + j - 32 - 68 = j by omega, List.getElem?_append_left (List.getElem?_eq_some_iff.1 hv).1]; exact hv)
theorem Tno.rwk : W.rangeAt g (off + 102) (wn x.wk).toList := fun j v hv => by
  have := x.rpub r (102 + j) v (by
    rw [Tno.pub, List.getElem?_append_right (by rw [cellsL_len, x.hi]; omega), cellsL_len, x.hi, List.getElem?_append_right (by rw [x.h.len]; omega), x.h.len, List.getElem?_append_right (by show 2 ≤ _; omega), show 102 + j - 32 - 68 - x.mid.length = j by show 102 + j - 32 - 68 - 2 = j; omega, List.getElem?_append_left (List.getElem?_eq_some_iff.1 hv).1]; exact hv)
  rw [show off + 102 + j = off + (102 + j) by omega]
  exact this
theorem Tno.rflg (j : Nat) (v : Value) (hv : x.flg[j]? = some v) : W.cell? ⟨g, off + (106 + j), none⟩ = some v := x.rpub r (106 + j) v (by
  rw [Tno.pub, List.getElem?_append_right (by rw [cellsL_len, x.hi]; omega), cellsL_len, x.hi, List.getElem?_append_right (by rw [x.h.len]; omega), x.h.len, List.getElem?_append_right (by show 2 ≤ _; omega), show 106 + j - 32 - 68 - x.mid.length = 4 + j by show 106 + j - 32 - 68 - 2 = 4 + j; omega, List.getElem?_append_right (by rw [wn_len]; omega), wn_len, show 4 + j - 4 = j by omega]; exact hv)
theorem Tno.cht : W.cell? ⟨g, off + 100, none⟩ = some (.int .i64 (x.ht : Int)) := x.rmid r 0 _ rfl
theorem Tno.cod : W.cell? ⟨g, off + 101, none⟩ = some (.int .i64 (x.od : Int)) := x.rmid r 1 _ rfl
theorem Tno.cbd : W.cell? ⟨g, off + 106, none⟩ = some (.bool x.bd) := x.rflg r 0 _ rfl
theorem Tno.cwh : W.cell? ⟨g, off + 107, none⟩ = some (.bool x.wh) := x.rflg r 1 _ rfl
theorem Tno.cbad : W.cell? ⟨g, off + 108, none⟩ = some (.bool x.bad) := x.rflg r 2 _ rfl
theorem Tno.ctu : W.cell? ⟨g, off + 109, none⟩ = some (.int .i64 (x.tu : Int)) := x.rflg r 3 _ rfl
theorem Tno.cpa : W.cell? ⟨g, off + 110, none⟩ = some (.int .i64 (x.pa : Int)) := x.rptr r 0 _ rfl
theorem Tno.csk : W.cell? ⟨g, off + 111, none⟩ = some (.int .i64 (x.sk : Int)) := x.rptr r 1 _ rfl
theorem Tno.cyo : W.cell? ⟨g, off + 112, none⟩ = some (.int .i64 (x.yo : Int)) := x.rptr r 2 _ rfl
end
theorem keyTH14 : Tryz.prog.keyType 46 = true := by kernel_rfl
theorem lawH14 : Keyed Tryz.prog 46 := Keyed.of_law (deep_law_laid laidOutP (m := 2) (by omega) (of_decide_eq_true (by kernel_rfl)) (by kernel_rfl) (by kernel_rfl))
theorem zeroI14 (w : World) : (zeroValue 3).run Tryz.prog w = .ok (.int .i64 0) w := by kernel_rfl
theorem keyH14 (l : List UInt8) (hl : l.length = 32) : keyOf Tryz.prog 46 (.agg (hc l)) = some (.string l) := by
  obtain ⟨d, hd⟩ : ∃ d, Tryz.prog.types.size = d + 1 := ⟨Tryz.prog.types.size - 1, by have : 0 < Tryz.prog.types.size := of_decide_eq_true (by kernel_rfl); omega⟩
  unfold keyOf
  simp only [Tryz.underlying46]
  rw [if_pos (by simp [keyTH14, Value.formed, Tryz.underlying46, cellsPH, hc_size, hl]), hd]
  have hcl : (hc l).toList = cellsL l := by simp [hc]
  simp only [Value.cells]
  rw [hcl, litsHP d l hl]
  simp only [Option.map_some]
  congr 2
  rw [keyBytes, keyHB]
abbrev OmI (W : World) (b n : Nat) (D : DataW Unit) : Prop := W.ownsMap Tryz.prog 46 (plainElem Tryz.prog 3) b n D
theorem look14 {W : World} {b n : Nat} {D : DataW Unit} (h : OmI W b n D) (l : List UInt8) (hl : l.length = 32) (c : Int) (hat : D.atKey (.string l) (.lit (.int .i64 0)) = .lit (.int .i64 c)) : (Instr.lookup 118 (.map (some b)) (.agg (hc l)) true).run Tryz.prog W = .ok (.tuple #[.int .i64 c, .bool (Maps.has D (.string l))]) W := by
  obtain ⟨v, ps, hrun, hv⟩ := h.look_ok lawH14 Tryz.underlying118 (zeroI14 W) (zd := .lit (.int .i64 0)) (zp := []) (plainElem_int Tryz.underlying3 (by decide)) (keyH14 l hl)
  obtain ⟨c', rfl, hc', hwc⟩ := plainElem_int_inv Tryz.underlying3 hv
  have e := congrArg Prod.fst hc'
  simp only at e
  rw [hat] at e
  have : c = c' := by simpa using e
  rw [this]
  exact hrun
theorem OmI.of_block {W W' : World} {b n : Nat} {D : DataW Unit} (h : OmI W b n D) (e : W'.heap[b]? = W.heap[b]?) : OmI W' b n D := by
  obtain ⟨es, clock, hb, F, hs, rfl⟩ := h
  exact ⟨es, clock, e.trans hb, F, hs, rfl⟩
theorem OmI.lt {W : World} {b n : Nat} {D : DataW Unit} (h : OmI W b n D) : b < W.heap.size := by
  obtain ⟨es, clock, hb, F, hs, rfl⟩ := h
  exact lt_heap hb
structure Frt (S : Nat → Prop) (w w' : World) : Prop where
  os : w'.os = w.os
  tape : w'.tape = w.tape
  output : w'.output = w.output
  size : w.heap.size ≤ w'.heap.size
  block : ∀ k, k < w.heap.size → ¬ S k → w'.heap[k]? = w.heap[k]?
theorem Frt.refl (S : Nat → Prop) (w : World) : Frt S w w := ⟨rfl, rfl, rfl, Nat.le_refl _, fun _ _ _ => rfl⟩
theorem Frt.mono {S S' : Nat → Prop} {w w' : World} (h : Frt S w w') (hs : ∀ g, S g → S' g) : Frt S' w w' := ⟨h.os, h.tape, h.output, h.size, fun k hk hn => h.block k hk fun e => hn (hs k e)⟩
theorem Frt.trans' {S : Nat → Prop} {w w1 w2 : World} (h : Frt S w w1) (k : Frt S w1 w2) : Frt S w w2 := ⟨k.os.trans h.os, k.tape.trans h.tape, k.output.trans h.output, Nat.le_trans h.size k.size, fun q hq hn => (k.block q (Nat.lt_of_lt_of_le hq h.size) hn).trans (h.block q hq hn)⟩
theorem Frt.of_below {S : Nat → Prop} {w w' : World} (h : Below w.heap.size w w') : Frt S w w' := ⟨h.os, h.tape, h.output, h.size, fun k hk _ => h.block k hk⟩
theorem Frt.next {S : Nat → Prop} {B w w' : World} (h : Frt S B w) (b : Below w.heap.size w w') : Frt S B w' := h.trans' (Frt.of_below b)
theorem Frt.of_grown {S : Nat → Prop} {w w' : World} {row : Option Nat} (h : w.grownBy w' row) (hr : ∀ g, row = some g → S g) : Frt S w w' := ⟨h.os, h.tape, h.output, h.size, fun k hk hn => h.block k hk fun e => hn (hr k e.symm)⟩
theorem Frt.setCell {S : Nat → Prop} (w : World) {p : Addr} (hp : S p.block) (v : Value) : Frt S w (w.setCell p v) := ⟨rfl, rfl, rfl, by simp [World.setCell], fun k _ hn => Below.heap_setCell _ _ _ _ (fun e => hn (by rw [e]; exact hp))⟩
def trA (gm : Nat) (ve : Value) (tu be bh : Nat) : Array Value := #[.map (some gm), ve, .int .i64 (tu : Int), .int .i64 (be : Int), .int .i64 (bh : Int)]
structure Tm4 (B W : World) (gt gm n : Nat) (D : DataW Unit) (ve : Value) (L : List Tno) (tu be bh : Nat) : Prop where
  row : W.heap[gt]? = some (.cells (trA gm ve tu be bh) 123 (0, 0))
  map : OmI W gm n D
  own : OX KNo W ve L
  bel : Below B.heap.size B W
  bt : B.heap.size ≤ gt
  bm : B.heap.size ≤ gm
  ne : gt ≠ gm
  be : ∀ g, ve.ownBlock = some g → B.heap.size ≤ g ∧ g ≠ gt ∧ g ≠ gm
section
variable {B W W' : World} {gt gm n : Nat} {D : DataW Unit} {ve : Value} {L : List Tno} {tu be bh : Nat}
theorem Tm4.fr {S : Nat → Prop} (h : Tm4 B W gt gm n D ve L tu be bh) (f : Frt S W W') (hS : ∀ g, S g → B.heap.size ≤ g ∧ g ≠ gt ∧ g ≠ gm ∧ ve.ownBlock ≠ some g) : Tm4 B W' gt gm n D ve L tu be bh := by
  have hs := h.bel.size
  have hf := f.size
  refine ⟨(f.block _ (lt_heap h.row) fun c => (hS _ c).2.1 rfl).trans h.row, h.map.of_block (f.block _ h.map.lt fun c => (hS _ c).2.2.1 rfl), h.own.of_block fun g hg => f.block _ (h.own.lt g hg) fun c => (hS _ c).2.2.2 hg, ⟨f.os.trans h.bel.os, f.tape.trans h.bel.tape, f.output.trans h.bel.output, by omega, fun k hk => (f.block k (by omega) fun c => ?_).trans (h.bel.block k hk)⟩, h.bt, h.bm, h.ne, h.be⟩
  have := (hS _ c).1
  omega
theorem Tm4.next (h : Tm4 B W gt gm n D ve L tu be bh) (b : Below W.heap.size W W') : Tm4 B W' gt gm n D ve L tu be bh :=
  h.fr (S := fun _ => False) ⟨b.os, b.tape, b.output, b.size, fun k hk _ => b.block k hk⟩ (fun g c => c.elim)
theorem Tm4.cells (h : Tm4 B W gt gm n D ve L tu be bh) : W.cell? ⟨gt, 0, none⟩ = some (.map (some gm)) ∧ W.cell? ⟨gt, 1, none⟩ = some ve ∧ W.cell? ⟨gt, 2, none⟩ = some (.int .i64 (tu : Int)) ∧ W.cell? ⟨gt, 3, none⟩ = some (.int .i64 (be : Int)) ∧ W.cell? ⟨gt, 4, none⟩ = some (.int .i64 (bh : Int)) := by
  refine ⟨?_, ?_, ?_, ?_, ?_⟩ <;> rw [cell_of_row _ _ _ _ _ _ h.row] <;> rfl
end
theorem wpLoadNo {w : World} {ops : Array Oper} {rest : List Oper} {o : Oper} {a : Act} {Q : Exit → Act → World → Prop} (x : Operand) (ho : o.op = .load 53 x) (g off : Nat) (hx : a.eval x = .pointer (some ⟨g, off, none⟩)) (y : Tno) (hr : w.rangeAt g off y.pub) (hw : Region.wanted o (yielded ops a.tmps) = true)
    (h : wpList Tryz.prog ops Q rest (a.put o.dst (.agg y.pub.toArray)) w) : wpList Tryz.prog ops Q (o :: rest) a w := by
  have ld : (Instr.loadAt 53 (.pointer (some ⟨g, off, none⟩))).run Tryz.prog w = .ok (.agg y.pub.toArray) w :=
    run_loadAt_mid w g off 53 _ _ hr Tryz.underlying53 rfl (by rw [y.pub_len]; kernel_rfl)
  refine wpList_step fun K hK => ?_
  rw [if_pos hw]
  unfold Oper.wp execOp
  simp only [ho, hx, ld, Sem.run_bind, Result.andThen_ok, Sem.run_pure]
  exact hK _ _ h
section
variable {S : World → Prop} {ops : Array Oper} {o : Oper} {a : Act}
theorem yl_look14 (hw : Region.wanted o (yielded ops a.tmps) = true) (t : TypeId) (m x : Operand) (ho : o.op = .lookup t m x true) (vm vx : Value) (hm : a.eval m = vm) (hx : a.eval x = vx) (r : Value) (hr : ∀ W, S W → (Instr.lookup t vm vx true).run Tryz.prog W = .ok r W) : YieldsIf Tryz.prog ops S o r a :=
  .inl ⟨hw, fun W hW => by
    unfold execOp
    simp only [ho, hm, hx, hr W hW, Sem.run_bind, Result.andThen_ok, Sem.run_pure]⟩
end
end Go.Proofs.YtcoojkpimbddlaaGreatDoor
