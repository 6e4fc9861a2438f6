/- The document's TakeHead: its contract. The walk of BlockHeads. Points as keys of a map. -/
import Derived.Test.YthhojpplbhnnfaaGreatDoorX37
import Derived.Test.YthhojpplbhnnfaaGreatDoorX33
import Derived.Maps.OwnSet
import Derived.Maps.OwnOps
import Derived.DeepKeys4
namespace Go.Proofs.YthhojpplbhnnfaaGreatDoor
open Go.RowKit
open Go.Deep
set_option linter.unusedVariables false
/-- Zeros, of which the first so many are laid over. -/
def layN (l : List UInt8) (j : Nat) : List UInt8 := l.take j ++ zeros.drop j
theorem layN_len (l : List UInt8) (hl : l.length = 32) (j : Nat) (hj : j ≤ 32) : (layN l j).length = 32 := by
  have := zeros_len
  simp [layN]
  omega
theorem layN_set (l : List UInt8) (hl : l.length = 32) (j : Nat) (hj : j < 32) (b : UInt8) (hb : l[j]'(by omega) = b) : (hc (layN l j)).setIfInBounds j (.int .u8 (b.toNat : Int)) = hc (layN l (j + 1)) := by
  subst hb
  have hz := zeros_len
  have e : (layN l j).set j (l[j]'(by omega)) = layN l (j + 1) := by
    unfold layN
    have h1 : (l.take j).length = j := by simp; omega
    rw [List.set_append_right _ _ (by omega), h1, Nat.sub_self, List.drop_eq_getElem_cons (show j < zeros.length by omega), List.set_cons_zero, ← List.take_append_getElem (show j < l.length by omega), List.append_assoc]
    rfl
  rw [← e, hc, hc, List.setIfInBounds_toArray, cellsL, cellsL, List.map_set]
section
set_option maxRecDepth 10000
set_option maxHeartbeats 4000000
end
end Go.Proofs.YthhojpplbhnnfaaGreatDoor
namespace Go.Proofs.YthhojpplbhnnfaaGreatDoor
open Go.RowKit
open Go.Deep
set_option linter.unusedVariables false
theorem leN_lowC (k n : Nat) (h : n < 256 ^ k) : leN (lowL n k) = n := by
  induction k generalizing n with
  | zero => simp [lowL, leN] at *; omega
  | succ k ih =>
    rw [lowL, leN, ih (n / 256) (by rw [Nat.pow_succ] at h; omega), UInt8.toNat_ofNat']
    omega
theorem u32_low (n : UInt32) : u32B (lowL n.toNat 4) = n := by
  rw [u32B, leN_lowC 4 n.toNat (by have := n.toNat_lt; omega), UInt32.ofNat_toNat]
theorem hdOf_bytes (h : Hd) (hl : 80 ≤ h.bytes.length) : hdOf h.bytes hl = h := by
  obtain ⟨v, p, r, t, b, o, hp, hr⟩ := h
  have e : (⟨v, p, r, t, b, o, hp, hr⟩ : Hd).bytes = lowL v.toNat 4 ++ (p ++ (r ++ (lowL t.toNat 4 ++ (lowL b.toNat 4 ++ lowL o.toNat 4)))) := by simp [Hd.bytes, Hd.front, List.append_assoc]
  generalize (⟨v, p, r, t, b, o, hp, hr⟩ : Hd).bytes = l at *
  have d4 : l.drop 4 = p ++ (r ++ (lowL t.toNat 4 ++ (lowL b.toNat 4 ++ lowL o.toNat 4))) := by rw [e]; exact List.drop_left' (lowL_len _ _)
  have d36 : l.drop 36 = r ++ (lowL t.toNat 4 ++ (lowL b.toNat 4 ++ lowL o.toNat 4)) := by rw [show 36 = 4 + 32 from rfl, ← List.drop_drop, d4]; exact List.drop_left' hp
  have d68 : l.drop 68 = lowL t.toNat 4 ++ (lowL b.toNat 4 ++ lowL o.toNat 4) := by rw [show 68 = 36 + 32 from rfl, ← List.drop_drop, d36]; exact List.drop_left' hr
  have d72 : l.drop 72 = lowL b.toNat 4 ++ lowL o.toNat 4 := by rw [show 72 = 68 + 4 from rfl, ← List.drop_drop, d68]; exact List.drop_left' (lowL_len _ _)
  have d76 : l.drop 76 = lowL o.toNat 4 := by rw [show 76 = 72 + 4 from rfl, ← List.drop_drop, d72]; exact List.drop_left' (lowL_len _ _)
  have t0 : l.take 4 = lowL v.toNat 4 := by rw [e]; exact List.take_left' (lowL_len _ _)
  have t4 : (l.drop 4).take 32 = p := by rw [d4]; exact List.take_left' hp
  have t36 : (l.drop 36).take 32 = r := by rw [d36]; exact List.take_left' hr
  have t68 : (l.drop 68).take 4 = lowL t.toNat 4 := by rw [d68]; exact List.take_left' (lowL_len _ _)
  have t72 : (l.drop 72).take 4 = lowL b.toNat 4 := by rw [d72]; exact List.take_left' (lowL_len _ _)
  have t76 : (l.drop 76).take 4 = lowL o.toNat 4 := by rw [d76]; exact List.take_of_length_le (by rw [lowL_len]; omega)
  simp only [hdOf, t0, t4, t36, t68, t72, t76, u32_low]
theorem tkA_back (h : Hd) (s : ByteArray) (hs : s.data.toList = 120 :: h.bytes) : tkA s 1 = (h, 0) := by
  have hz : s.size = 81 := by
    have h1 : s.data.toList.length = s.size := by simp
    rw [← h1, hs, List.length_cons, h.bytes_len]
  have e : s.data.toList.drop (1 : Int).toNat = h.bytes := by rw [hs]; rfl
  rw [tkA, if_neg (by omega), e, tkH, dif_pos (by rw [h.bytes_len]; omega), hdOf_bytes]
/-- A type's fields are those of a header. -/
structure FHd (t : TypeId) : Prop where
  ex : ∃ f0 f1 f2 f3 f4 f5, Tryz.prog.underlying t = some (.struct #[f0, f1, f2, f3, f4, f5]) ∧ (f0.name ≠ "_" ∧ f1.name ≠ "_" ∧ f2.name ≠ "_" ∧ f3.name ≠ "_" ∧ f4.name ≠ "_" ∧ f5.name ≠ "_") ∧ (f0.offset = 0 ∧ f1.offset = 1 ∧ f2.offset = 33 ∧ f3.offset = 65 ∧ f4.offset = 66 ∧ f5.offset = 67) ∧
    (Tryz.prog.underlying f0.type = some (.int .u32) ∧ Tryz.prog.underlying f3.type = some (.int .u32) ∧ Tryz.prog.underlying f4.type = some (.int .u32) ∧ Tryz.prog.underlying f5.type = some (.int .u32)) ∧ Tryz.prog.underlying f1.type = some (.array 32 5) ∧ Tryz.prog.underlying f2.type = some (.array 32 5) ∧ (∀ W, (sizeOf f1.type).run Tryz.prog W = .ok 32 W) ∧ (∀ W, (sizeOf f2.type).run Tryz.prog W = .ok 32 W)
  st : Tryz.prog.stoodInHeld t = false
theorem fh_api : FHd 48 := ⟨⟨_, _, _, _, _, _, Tryz.underlying48, ⟨by decide, by decide, by decide, by decide, by decide, by decide⟩, ⟨rfl, rfl, rfl, rfl, rfl, rfl⟩, ⟨Tryz.underlying31, Tryz.underlying31, Tryz.underlying31, Tryz.underlying31⟩, Tryz.underlying46, Tryz.underlying46, fun W => by kernel_rfl, fun W => by kernel_rfl⟩, by kernel_rfl⟩
theorem fh_ref : FHd 76 := ⟨⟨_, _, _, _, _, _, Tryz.underlying76, ⟨by decide, by decide, by decide, by decide, by decide, by decide⟩, ⟨rfl, rfl, rfl, rfl, rfl, rfl⟩, ⟨Tryz.underlying31, Tryz.underlying31, Tryz.underlying31, Tryz.underlying31⟩, Tryz.underlying45, Tryz.underlying45, fun W => by kernel_rfl, fun W => by kernel_rfl⟩, by kernel_rfl⟩
theorem Hd.prev_at (h : Hd) : h.cells.toArray.extract 1 (1 + 32) = (cellsL h.prev).toArray := by
  have hl : (cellsL h.prev).length = 32 := by rw [cellsL_len, h.hp]
  simp only [Hd.cells, List.extract_toArray, List.extract]
  simp [hl]
theorem Hd.root_at (h : Hd) : h.cells.toArray.extract 33 (33 + 32) = (cellsL h.root).toArray := by
  have hl : (cellsL h.prev).length = 32 := by rw [cellsL_len, h.hp]
  have hm : (cellsL h.root).length = 32 := by rw [cellsL_len, h.hr]
  simp only [Hd.cells, List.extract_toArray, List.extract]
  rw [show 33 = 32 + 1 from rfl, List.drop_succ_cons, ← hl, List.drop_left, show (cellsL h.prev).length + 1 + (cellsL h.prev).length - ((cellsL h.prev).length + 1) = (cellsL h.root).length by omega, List.take_left]
theorem eqHd {t : TypeId} (F : FHd t) (h : Hd) (W : World) : (Op.equalIn 10000 t (.agg h.cells.toArray) (.agg h.cells.toArray)).run Tryz.prog W = .ok true W := by
  obtain ⟨⟨f0, f1, f2, f3, f4, f5, hu, ⟨n0, n1, n2, n3, n4, n5⟩, ⟨o0, o1, o2, o3, o4, o5⟩, ⟨u0, u3, u4, u5⟩, u1, u2, s1, s2⟩, st⟩ := F
  have hf : Tryz.prog.fieldsOf t = #[f0, f1, f2, f3, f4, f5] := by simp [Program.fieldsOf, hu]
  refine (run_equalIn_struct W 9999 t _ _ (by rw [hf]; exact hu) st).trans ?_
  rw [hf]
  have c0 : h.cells.toArray[0]? = some (.int .u32 (h.ver.toNat : Int)) := by rw [List.getElem?_toArray]; exact h.get0
  have c3 : h.cells.toArray[65]? = some (.int .u32 (h.time.toNat : Int)) := by rw [List.getElem?_toArray]; exact h.getL 0
  have c4 : h.cells.toArray[66]? = some (.int .u32 (h.bits.toNat : Int)) := by rw [List.getElem?_toArray]; exact h.getL 1
  have c5 : h.cells.toArray[67]? = some (.int .u32 (h.nonce.toNat : Int)) := by rw [List.getElem?_toArray]; exact h.getL 2
  have e5 := eqF_cons (W := W) (d := 9999) (xs := h.cells.toArray) (ys := h.cells.toArray) n5 (part_cell u5 rfl (by rw [o5]; exact c5)) (part_cell u5 rfl (by rw [o5]; exact c5)) (run_equalIn_int W 9998 f5.type .u32 .u32 _ _ u5) (fs := []) (r2 := true) rfl
  have e4 := eqF_cons (W := W) (d := 9999) (xs := h.cells.toArray) (ys := h.cells.toArray) n4 (part_cell u4 rfl (by rw [o4]; exact c4)) (part_cell u4 rfl (by rw [o4]; exact c4)) (run_equalIn_int W 9998 f4.type .u32 .u32 _ _ u4) e5
  have e3 := eqF_cons (W := W) (d := 9999) (xs := h.cells.toArray) (ys := h.cells.toArray) n3 (part_cell u3 rfl (by rw [o3]; exact c3)) (part_cell u3 rfl (by rw [o3]; exact c3)) (run_equalIn_int W 9998 f3.type .u32 .u32 _ _ u3) e4
  have e2 := eqF_cons (W := W) (d := 9999) (xs := h.cells.toArray) (ys := h.cells.toArray) n2 (part_row u2 rfl (s2 W) (by rw [o2]; exact h.root_at)) (part_row u2 rfl (s2 W) (by rw [o2]; exact h.root_at)) (eqC_bytes h.root h.root 32 h.hr h.hr f2.type u2 9997 W) e3
  have e1 := eqF_cons (W := W) (d := 9999) (xs := h.cells.toArray) (ys := h.cells.toArray) n1 (part_row u1 rfl (s1 W) (by rw [o1]; exact h.prev_at)) (part_row u1 rfl (s1 W) (by rw [o1]; exact h.prev_at)) (eqC_bytes h.prev h.prev 32 h.hp h.hp f1.type u1 9997 W) e2
  have e0 := eqF_cons (W := W) (d := 9999) (xs := h.cells.toArray) (ys := h.cells.toArray) n0 (part_cell u0 rfl (by rw [o0]; exact c0)) (part_cell u0 rfl (by rw [o0]; exact c0)) (run_equalIn_int W 9998 f0.type .u32 .u32 _ _ u0) e1
  simpa using e0
section
variable {S : World → Prop} {ops : Array Oper} {o : Oper} {a : Act}
theorem yl_eqlB (hw : Region.wanted o (yielded ops a.tmps) = true) (t : TypeId) (x y : Operand) (t2 : TypeId) (ho : o.op = .binOp .eql t x y t2) (c d : Array Value) (hx : a.eval x = .agg c) (hy : a.eval y = .agg d) (hg : Tryz.prog.eqGuardType Tryz.prog.depth t = false)
    (v : Bool) (hr : ∀ W, (Op.equalIn 10000 t (.agg c) (.agg d)).run Tryz.prog W = .ok v W) : YieldsIf Tryz.prog ops S o (.bool v) a :=
  .inl ⟨hw, fun W _ => by
    unfold execOp
    simp only [ho, hx, hy, Sem.run_bind, run_eqGuard_agg (P := Tryz.prog) W .eql t x y c d hg, run_eql_struct, hr W, Result.andThen_ok, Sem.run_pure]⟩
end
section
set_option maxRecDepth 10000
set_option maxHeartbeats 8000000
end
end Go.Proofs.YthhojpplbhnnfaaGreatDoor
namespace Go.Proofs.YthhojpplbhnnfaaGreatDoor
open Go.RowKit
open Go.Deep
open Go.Maps
theorem laidOutP : laidOutB Tryz.prog = true := by kernel_rfl
theorem cellsP8 : Tryz.prog.cellsOf 5 = 1 := by kernel_rfl
theorem cellsP32 : Tryz.prog.cellsOf 31 = 1 := by kernel_rfl
theorem cellsPH : Tryz.prog.cellsOf 46 = 32 := by kernel_rfl
theorem cellsPP : Tryz.prog.cellsOf 220 = 33 := by kernel_rfl
theorem keyTP : Tryz.prog.keyType 220 = true := by kernel_rfl
theorem lawP : Keyed Tryz.prog 220 := Keyed.of_law (deep_law_laid laidOutP (m := 3) (by omega) (of_decide_eq_true (by kernel_rfl)) (by kernel_rfl) (by kernel_rfl))
theorem mapM_someP {α β : Type} (f : α → Option β) (g : α → β) (r : List α) (h : ∀ i ∈ r, f i = some (g i)) : r.mapM f = some (r.map g) := by
  induction r with
  | nil => rfl
  | cons a r ih =>
    rw [List.mapM_cons, h a (by simp), ih (fun i hi => h i (by simp [hi]))]
    rfl
theorem lits_atP (d : Nat) (l : List UInt8) (i : Nat) (hi : i < l.length) : Tryz.prog.keyLits (d + 1) 5 (((cellsL l).drop (i * 1)).take 1) = some [.int .u8 ((l.getD i 0).toNat : Int)] := by
  have hc : (cellsL l).length = l.length := cellsL_len l
  have hb := (l.getD i 0).toNat_lt
  have e : ((cellsL l).drop (i * 1)).take 1 = [.int .u8 ((l.getD i 0).toNat : Int)] := by
    rw [Nat.mul_one, List.drop_eq_getElem_cons (by omega)]
    simp [cellsL, hi]
  rw [e]
  generalize l.getD i 0 = b at *
  unfold Program.keyLits
  simp only [Tryz.underlying5]
  rw [if_pos]
  exact ⟨trivial, by simp [Lit.wf, IntKind.min, IntKind.max, IntKind.signed, IntKind.bits]; omega⟩
theorem range_getDP (l : List UInt8) : (List.range l.length).map (fun i => l.getD i 0) = l := by
  apply List.ext_getElem
  · simp
  · intro i h1 h2
    simp [h2]
theorem bytes_oneP (b : UInt8) : Lit.keyBytes (.int .u8 (b.toNat : Int)) = [b] := by
  have := b.toNat_lt
  have e : ((b.toNat : Int) % 2 ^ IntKind.u8.bits).toNat = b.toNat := by
    simp only [IntKind.bits]
    omega
  simp only [Lit.keyBytes]
  rw [e]
  simp only [IntKind.bits, bytesBE, bytesLE]
  simp
theorem litsHP (d : Nat) (l : List UInt8) (hl : l.length = 32) : Tryz.prog.keyLits (d + 2) 46 (cellsL l) = some (l.map fun b => Lit.int .u8 (b.toNat : Int)) := by
  unfold Program.keyLits
  simp only [Tryz.underlying46]
  rw [if_pos (by rw [cellsL_len, hl, cellsPH]), cellsP8, mapM_someP _ (fun i => [Lit.int .u8 ((l.getD i 0).toNat : Int)]) _ (fun i hi => lits_atP d l i (by rw [hl]; simpa using hi))]
  simp only [Option.map_some]
  congr 1
  rw [← hl]
  conv => rhs; rw [← range_getDP l]
  generalize List.range l.length = r
  induction r with
  | nil => rfl
  | cons a r ih =>
    simp only [List.map_cons, List.flatten_cons]
    rw [ih]
    rfl
theorem lits32P (d : Nat) (n : UInt32) : Tryz.prog.keyLits (d + 1) 31 [.int .u32 (n.toNat : Int)] = some [.int .u32 (n.toNat : Int)] := by
  have := n.toNat_lt
  unfold Program.keyLits
  simp only [Tryz.underlying31]
  rw [if_pos]
  exact ⟨trivial, by simp [Lit.wf, IntKind.min, IntKind.max, IntKind.signed, IntKind.bits]; omega⟩
/-- A point's key. -/
def Tp.keyB (p : Tp) : List UInt8 := p.hash ++ Lit.keyBytes (.int .u32 (p.idx.toNat : Int))
theorem keyHB (l : List UInt8) : (l.map fun b => Lit.int .u8 (b.toNat : Int)).flatMap Lit.keyBytes = l := by
  induction l with
  | nil => rfl
  | cons b r ih => rw [List.map_cons, List.flatMap_cons, bytes_oneP, ih]; rfl
theorem litsPP (d : Nat) (p : Tp) : Tryz.prog.keyLits (d + 3) 220 p.cells = some ((p.hash.map fun b => Lit.int .u8 (b.toNat : Int)) ++ [.int .u32 (p.idx.toNat : Int)]) := by
  have hh : (cellsL p.hash).length = 32 := by rw [cellsL_len, p.hh]
  have e0 : (p.cells.drop 0).take 32 = cellsL p.hash := by rw [Tp.cells, List.drop_zero, List.take_append_of_le_length (by omega), List.take_of_length_le (by omega)]
  have e1 : (p.cells.drop 32).take 1 = [.int .u32 (p.idx.toNat : Int)] := by rw [Tp.cells, List.drop_append_of_le_length (by omega), List.drop_of_length_le (by omega)]; rfl
  unfold Program.keyLits
  simp only [Tryz.underlying220]
  rw [if_pos (by rw [p.len, cellsPP]; exact ⟨rfl, by simp⟩)]
  simp only [List.mapM_cons, List.mapM_nil, cellsPH, cellsP32, e0, e1, litsHP d p.hash p.hh, lits32P (d + 1) p.idx]
  rfl
theorem keyP (p : Tp) : keyOf Tryz.prog 220 (.agg p.cells.toArray) = some (.string p.keyB) := by
  obtain ⟨d, hd⟩ : ∃ d, Tryz.prog.types.size = d + 2 := ⟨Tryz.prog.types.size - 2, by have : 1 < Tryz.prog.types.size := of_decide_eq_true (by kernel_rfl); omega⟩
  unfold keyOf
  simp only [Tryz.underlying220]
  rw [if_pos (by simp [keyTP, Value.formed, Tryz.underlying220, cellsPP, p.len]), hd]
  simp only [Value.cells]
  rw [litsPP d p]
  simp only [Option.map_some, keyBytes, List.flatMap_append, keyHB, Tp.keyB, List.flatMap_cons, List.flatMap_nil, List.append_nil]
theorem be_inj (a b : UInt32) (h : Lit.keyBytes (.int .u32 (a.toNat : Int)) = Lit.keyBytes (.int .u32 (b.toNat : Int))) : a = b := by
  have ha := a.toNat_lt
  have hb := b.toNat_lt
  have ea : ((a.toNat : Int) % 2 ^ IntKind.u32.bits).toNat = a.toNat := by
    simp only [IntKind.bits]
    omega
  have eb : ((b.toNat : Int) % 2 ^ IntKind.u32.bits).toNat = b.toNat := by
    simp only [IntKind.bits]
    omega
  apply UInt32.toNat_inj.1
  simp only [Lit.keyBytes] at h
  rw [ea, eb] at h
  clear ea eb
  generalize a.toNat = x at *
  generalize b.toNat = y at *
  simp only [IntKind.bits, bytesBE, bytesLE] at h
  simp at h
  obtain ⟨h3, h2, h1, h0⟩ := h
  have g3 := congrArg UInt8.toNat h3
  have g2 := congrArg UInt8.toNat h2
  have g1 := congrArg UInt8.toNat h1
  have g0 := congrArg UInt8.toNat h0
  simp only [UInt8.toNat_ofNat'] at g3 g2 g1 g0
  omega
theorem Tp.keyB_inj (p q : Tp) (h : p.keyB = q.keyB) : p = q := by
  obtain ⟨a, b, ha⟩ := p
  obtain ⟨c, d, hc⟩ := q
  simp only [Tp.keyB] at h
  obtain ⟨h1, h2⟩ := List.append_inj h (by rw [ha, hc])
  have h3 := be_inj _ _ h2
  subst h1 h3
  rfl
end Go.Proofs.YthhojpplbhnnfaaGreatDoor
