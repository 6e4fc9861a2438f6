/- Kinds of commands, lists of things that are asked for: the contracts of Kind and Asked. -/
import Derived.Test.YtkoidjaaojmcnaaGreatM10
import Derived.Test.YtkoidjaaojmcnaaGreatM09
namespace Go.Proofs.YtkoidjaaojmcnaaGreat
open Go.RowKit
open Go.Deep
theorem cmd_inj : ∀ i j : Fin 18, cmdN (i.1 + 1) = cmdN (j.1 + 1) → i = j := by decide +kernel
section
set_option maxRecDepth 10000
set_option maxHeartbeats 4000000
end
/-! ### a copy of a list of things -/
section
variable {α : Type} {w : World} {ops : Array Oper} {rest : List Oper} {o : Oper} {a : Act} {Q : Exit → Act → World → Prop}
theorem Ek.wpApp (E : Ek α) (hgd : o.guard = none) (x y : Operand)
    (ho : o.op = .call { callee := .builtin .append, args := #[x, y], argTypes := #[E.t, E.t] })
    (v : Value) (L : List α) (hx : a.eval x = v) (hown : OX E w v L)
    (ad : Addr) (n c : Nat) (N : List α) (hn : n = N.length) (hy : a.eval y = .slice (some ad) n c) (hnews : ∀ j u, (flatE E N)[j]? = some u → w.cell? (ad.add j) = some u) (hsm : (L.length + n) * E.b ≤ 140737488355328) (h63 : L.length + n ≤ maxLen)
    (h : ∀ v' w', OX E w' v' (L ++ N) → Onto w w' v v' → wpList Tryz.prog ops Q rest (a.put o.dst v') w') :
    wpList Tryz.prog ops Q (o :: rest) a w := by
  refine wpList_plain hgd fun K hK => ?_
  obtain ⟨v', w', hr, h2, h3⟩ := E.app (ty := o.type) hown ad n c N hn hnews hsm h63
  unfold Oper.wp execOp
  simp only [ho, resolve, invoke, builtin, Sem.run_bind, Sem.run_pure, Result.andThen_ok, List.map_toArray, List.map_cons, List.map_nil, hx, hy, hr]
  exact hK _ _ (h v' w' h2 h3)
end
section
set_option maxRecDepth 10000
set_option maxHeartbeats 4000000
end
/-- What Asked makes. -/
def askM (k : Int) (L : List Im) : Mg := { zM with kind := k, items := L }
def askE (k : Int) (n : Nat) : Int := if 8 ≤ k ∧ k ≤ 10 then (if 500 < n then 5 else 0) else 90
section
set_option maxRecDepth 10000
set_option maxHeartbeats 4000000
attribute [local go_sem ↓] bdM_eq
end
end Go.Proofs.YtkoidjaaojmcnaaGreat
