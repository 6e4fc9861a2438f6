/- A tree: a node is hung on another one: its contract. -/
import Derived.Test.YtcoojkpimbddlaaGreatDoorX28
namespace Go.Proofs.YtcoojkpimbddlaaGreatDoor
open Go.RowKit
open Go.Deep
open Go.Maps
set_option linter.unusedVariables false
set_option linter.unusedSimpArgs false
theorem ex_mapU14 {a : Act} {o : Oper} {w w1 : World} (t : TypeId) (m x y : Operand) (ho : o.op = .mapUpdate t m x y) (vm vx vy : Value) (hm : a.eval m = vm) (hx : a.eval x = vx) (hy : a.eval y = vy) (hr : (Instr.mapUpdate t vm vx vy).run Tryz.prog w = .ok () w1) : (execOp a.eval o).run Tryz.prog w = .ok .skip w1 := by
  unfold execOp
  simp [ho, hm, hx, hy, hr, Result.andThen]
theorem OX.fz {α : Type} {E : Ek α} {W : World} {g c n : Nat} {L : List α} (h : OX E W (.slice (some ⟨g, 0, none⟩) n c) L) (i : Nat) : W.frozen? ⟨g, i, none⟩ = false := by
  obtain ⟨hl, ⟨e, _⟩ | ⟨g', cap, cur, e, hb, hh, h1, h2, h3, h4⟩⟩ := h
  · cases e
  · cases e
    exact frozen_of_row W g i _ _ hh
section
set_option maxRecDepth 10000
set_option maxHeartbeats 8000000
end
end Go.Proofs.YtcoojkpimbddlaaGreatDoor
