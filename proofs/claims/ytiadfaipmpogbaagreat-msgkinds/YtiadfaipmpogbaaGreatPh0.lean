/- What the document's Same reads. -/
import Derived.Test.YtiadfaipmpogbaaGreatPg0
namespace Go.Proofs.YtiadfaipmpogbaaGreat
open Go.RowKit
open Go.Deep
def ldNr (x : Value) : Sem Value := Instr.loadAt 44 x
theorem ldNr_eq (x : Value) : Instr.loadAt 44 x = ldNr x := rfl
theorem ldNr_run {W : World} {g off : Nat} (y : Nt) (hr : W.rangeAt g off y.cells) : (ldNr (.pointer (some ⟨g, off, none⟩))).run Tryz.prog W = .ok (.agg y.cells.toArray) W := KNr.load y Tryz.underlying44 rfl hr
def neqNr (x y : Value) : Sem Value := binOp .neq 44 x y
theorem neqNr_eq (x y : Value) : binOp .neq 44 x y = neqNr x y := rfl
theorem neqNr_run (x y : Nt) (W : World) : (neqNr (.agg x.cells.toArray) (.agg y.cells.toArray)).run Tryz.prog W = .ok (.bool (!decide (x = y))) W := by
  unfold neqNr
  rw [run_neq_struct, eqNt fn_ref]
  rfl
def ldHr (x : Value) : Sem Value := Instr.loadAt 31 x
theorem ldHr_eq (x : Value) : Instr.loadAt 31 x = ldHr x := rfl
theorem ldHr_run {W : World} {g off : Nat} (y : Id32) (hr : W.rangeAt g off (cellsL y.1)) : (ldHr (.pointer (some ⟨g, off, none⟩))).run Tryz.prog W = .ok (.agg (cellsL y.1).toArray) W := KHr.load y Tryz.underlying31 rfl hr
def neqHr (x y : Value) : Sem Value := binOp .neq 31 x y
theorem neqHr_eq (x y : Value) : binOp .neq 31 x y = neqHr x y := rfl
theorem neqHr_run (x y : Id32) (W : World) : (neqHr (.agg (cellsL x.1).toArray) (.agg (cellsL y.1).toArray)).run Tryz.prog W = .ok (.bool (!decide (x = y))) W := by
  unfold neqHr
  rw [run_neq_struct, eqId Tryz.underlying31]
  rfl
end Go.Proofs.YtiadfaipmpogbaaGreat
