/- Points as keys of a map. -/
import Derived.Test.YtkbfcfmjbgnhcaaKzb
import Derived.Maps.OwnSet
import Derived.Maps.OwnOps
import Derived.DeepKeys4
namespace Go.Proofs.Ytkbfcfmjbgnhcaa
open Go.RowKit
open Go.Deep
open Go.Maps
theorem laidOutP : laidOutB Try.prog = true := by kernel_rfl
theorem cellsP8 : Try.prog.cellsOf 5 = 1 := by kernel_rfl
theorem cellsP32 : Try.prog.cellsOf 22 = 1 := by kernel_rfl
theorem cellsPH : Try.prog.cellsOf 44 = 32 := by kernel_rfl
theorem cellsPP : Try.prog.cellsOf 46 = 33 := by kernel_rfl
theorem keyTP : Try.prog.keyType 46 = true := by kernel_rfl
theorem lawP : Keyed Try.prog 46 := Keyed.of_law (deep_law_laid laidOutP (m := 3) (by omega) (of_decide_eq_true (by kernel_rfl)) (by kernel_rfl) (by kernel_rfl))
theorem zeroSP (w : World) : (zeroValue 71).run Try.prog w = .ok (.agg #[]) w := by kernel_rfl
theorem mapM_someP {α β : Type} (f : α → Option β) (g : α → β) (r : List α) (h : ∀ i ∈ r, f i = some (g i)) : r.mapM f = some (r.map g) := by
  induction r with
  | nil => rfl
  | cons a r ih =>
    rw [List.mapM_cons, h a (by simp), ih (fun i hi => h i (by simp [hi]))]
    rfl
theorem lits_atP (d : Nat) (l : List UInt8) (i : Nat) (hi : i < l.length) : Try.prog.keyLits (d + 1) 5 (((cellsL l).drop (i * 1)).take 1) = some [.int .u8 ((l.getD i 0).toNat : Int)] := by
  have hc : (cellsL l).length = l.length := cellsL_len l
  have hb := (l.getD i 0).toNat_lt
  have e : ((cellsL l).drop (i * 1)).take 1 = [.int .u8 ((l.getD i 0).toNat : Int)] := by
    rw [Nat.mul_one, List.drop_eq_getElem_cons (by omega)]
    simp [cellsL, hi]
  rw [e]
  generalize l.getD i 0 = b at *
  unfold Program.keyLits
  simp only [Try.underlying5]
  rw [if_pos]
  exact ⟨trivial, by simp [Lit.wf, IntKind.min, IntKind.max, IntKind.signed, IntKind.bits]; omega⟩
theorem range_getDP (l : List UInt8) : (List.range l.length).map (fun i => l.getD i 0) = l := by
  apply List.ext_getElem
  · simp
  · intro i h1 h2
    simp [h2]
theorem bytes_oneP (b : UInt8) : Lit.keyBytes (.int .u8 (b.toNat : Int)) = [b] := by
  have := b.toNat_lt
  have e : ((b.toNat : Int) % 2 ^ IntKind.u8.bits).toNat = b.toNat := by
    simp only [IntKind.bits]
    omega
  simp only [Lit.keyBytes]
  rw [e]
  simp only [IntKind.bits, bytesBE, bytesLE]
  simp
theorem litsHP (d : Nat) (l : List UInt8) (hl : l.length = 32) : Try.prog.keyLits (d + 2) 44 (cellsL l) = some (l.map fun b => Lit.int .u8 (b.toNat : Int)) := by
  unfold Program.keyLits
  simp only [Try.underlying44]
  rw [if_pos (by rw [cellsL_len, hl, cellsPH]), cellsP8, mapM_someP _ (fun i => [Lit.int .u8 ((l.getD i 0).toNat : Int)]) _ (fun i hi => lits_atP d l i (by rw [hl]; simpa using hi))]
  simp only [Option.map_some]
  congr 1
  rw [← hl]
  conv => rhs; rw [← range_getDP l]
  generalize List.range l.length = r
  induction r with
  | nil => rfl
  | cons a r ih =>
    simp only [List.map_cons, List.flatten_cons]
    rw [ih]
    rfl
theorem lits32P (d : Nat) (n : UInt32) : Try.prog.keyLits (d + 1) 22 [.int .u32 (n.toNat : Int)] = some [.int .u32 (n.toNat : Int)] := by
  have := n.toNat_lt
  unfold Program.keyLits
  simp only [Try.underlying22]
  rw [if_pos]
  exact ⟨trivial, by simp [Lit.wf, IntKind.min, IntKind.max, IntKind.signed, IntKind.bits]; omega⟩
/-- A point's key. -/
def Tp.keyB (p : Tp) : List UInt8 := p.hash ++ Lit.keyBytes (.int .u32 (p.idx.toNat : Int))
theorem keyHB (l : List UInt8) : (l.map fun b => Lit.int .u8 (b.toNat : Int)).flatMap Lit.keyBytes = l := by
  induction l with
  | nil => rfl
  | cons b r ih => rw [List.map_cons, List.flatMap_cons, bytes_oneP, ih]; rfl
theorem litsPP (d : Nat) (p : Tp) : Try.prog.keyLits (d + 3) 46 p.cells = some ((p.hash.map fun b => Lit.int .u8 (b.toNat : Int)) ++ [.int .u32 (p.idx.toNat : Int)]) := by
  have hh : (cellsL p.hash).length = 32 := by rw [cellsL_len, p.hh]
  have e0 : (p.cells.drop 0).take 32 = cellsL p.hash := by rw [Tp.cells, List.drop_zero, List.take_append_of_le_length (by omega), List.take_of_length_le (by omega)]
  have e1 : (p.cells.drop 32).take 1 = [.int .u32 (p.idx.toNat : Int)] := by rw [Tp.cells, List.drop_append_of_le_length (by omega), List.drop_of_length_le (by omega)]; rfl
  unfold Program.keyLits
  simp only [Try.underlying46]
  rw [if_pos (by rw [p.len, cellsPP]; exact ⟨rfl, by simp⟩)]
  simp only [List.mapM_cons, List.mapM_nil, cellsPH, cellsP32, e0, e1, litsHP d p.hash p.hh, lits32P (d + 1) p.idx]
  rfl
theorem keyP (p : Tp) : keyOf Try.prog 46 (.agg p.cells.toArray) = some (.string p.keyB) := by
  obtain ⟨d, hd⟩ : ∃ d, Try.prog.types.size = d + 2 := ⟨Try.prog.types.size - 2, by have : 1 < Try.prog.types.size := of_decide_eq_true (by kernel_rfl); omega⟩
  unfold keyOf
  simp only [Try.underlying46]
  rw [if_pos (by simp [keyTP, Value.formed, Try.underlying46, cellsPP, p.len]), hd]
  simp only [Value.cells]
  rw [litsPP d p]
  simp only [Option.map_some, keyBytes, List.flatMap_append, keyHB, Tp.keyB, List.flatMap_cons, List.flatMap_nil, List.append_nil]
theorem be_inj (a b : UInt32) (h : Lit.keyBytes (.int .u32 (a.toNat : Int)) = Lit.keyBytes (.int .u32 (b.toNat : Int))) : a = b := by
  have ha := a.toNat_lt
  have hb := b.toNat_lt
  have ea : ((a.toNat : Int) % 2 ^ IntKind.u32.bits).toNat = a.toNat := by
    simp only [IntKind.bits]
    omega
  have eb : ((b.toNat : Int) % 2 ^ IntKind.u32.bits).toNat = b.toNat := by
    simp only [IntKind.bits]
    omega
  apply UInt32.toNat_inj.1
  simp only [Lit.keyBytes] at h
  rw [ea, eb] at h
  clear ea eb
  generalize a.toNat = x at *
  generalize b.toNat = y at *
  simp only [IntKind.bits, bytesBE, bytesLE] at h
  simp at h
  obtain ⟨h3, h2, h1, h0⟩ := h
  have g3 := congrArg UInt8.toNat h3
  have g2 := congrArg UInt8.toNat h2
  have g1 := congrArg UInt8.toNat h1
  have g0 := congrArg UInt8.toNat h0
  simp only [UInt8.toNat_ofNat'] at g3 g2 g1 g0
  omega
theorem Tp.keyB_inj (p q : Tp) (h : p.keyB = q.keyB) : p = q := by
  obtain ⟨a, b, ha⟩ := p
  obtain ⟨c, d, hc⟩ := q
  simp only [Tp.keyB] at h
  obtain ⟨h1, h2⟩ := List.append_inj h (by rw [ha, hc])
  have h3 := be_inj _ _ h2
  subst h1 h3
  rfl
end Go.Proofs.Ytkbfcfmjbgnhcaa
