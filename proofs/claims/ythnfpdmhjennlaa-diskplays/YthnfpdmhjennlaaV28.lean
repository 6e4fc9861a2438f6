/- The document's disk: Crash of any disk; what strikes needs. -/
import Derived.Test.YthnfpdmhjennlaaV27
namespace Go.Proofs.Ythnfpdmhjennlaa
open Go.RowKit
open Go.Deep
open Go.Lib
set_option linter.unusedVariables false
theorem rcrash_any (K : Nat → Prop) (x : St) (v : Value) (keep torn : Int) (w : World) (hv : isD K w v x) (hV : Vd x) (hK : ∀ g, K g → g < w.heap.size) (hk1 : -9223372036854775808 ≤ keep) (hk2 : keep < 9223372036854775808) : Calls Try.prog 20 #[v, .int .i64 keep, .int .i64 torn] w fun e w' => ∃ v', e = .returned v' ∧ isD K w' v' (crC x keep torn) ∧ Below w.heap.size w w' := by
  unfold crC
  cases hd : x.dead
  · rw [if_neg (by decide)]
    exact rcrash_live K x v keep torn w hv hV hd hK hk1 hk2
  · rw [if_pos rfl]
    exact (rcrash_dead K x v keep torn w hv hd).mono fun e w' h => ⟨v, h.1, hv.next h.2, h.2⟩
def zfl : Array Value := #[.int .i64 0, .int .i64 0, .int .i64 0, .bool false]
theorem AFr : Arr 93 4 zfl := ⟨.inr ⟨_, Try.underlying93⟩, by kernel_rfl, fun w => by kernel_rfl, fun w => by kernel_rfl, rfl⟩
theorem bs0KFr (w : World) : (Instr.buildSlice KFr.t 0 #[]).run Try.prog w = .ok (.slice (some ⟨w.heap.size, 0, none⟩) 0 0) (w.alloc (.cells #[] KFr.e)) := by
  kernel_rfl
theorem bs0KCr (w : World) : (Instr.buildSlice KCr.t 0 #[]).run Try.prog w = .ok (.slice (some ⟨w.heap.size, 0, none⟩) 0 0) (w.alloc (.cells #[] KCr.e)) := by
  kernel_rfl
theorem ld_fr {W : World} {g off : Nat} {f : Fl} (hr : W.rangeAt g off (flv f)) : (Instr.loadAt 93 (.pointer (some ⟨g, off, none⟩))).run Try.prog W = .ok (.agg (flv f).toArray) W :=
  run_loadAt_mid W g off 93 _ _ hr Try.underlying93 rfl (by rw [AFr.info]; rfl)
theorem wpList_loadFr {w : World} {ops : Array Oper} {rest : List Oper} {o : Oper} {a : Act} {Q : Exit → Act → World → Prop} (hgd : o.guard = none) (x : Operand) (ho : o.op = .load 93 x) (g off : Nat) (hx : a.eval x = .pointer (some ⟨g, off, none⟩)) (f : Fl) (hr : w.rangeAt g off (flv f))
    (h : wpList Try.prog ops Q rest (a.put o.dst (.agg (flv f).toArray)) w) : wpList Try.prog ops Q (o :: rest) a w := by
  refine wpList_plain hgd fun K hK => ?_
  unfold Oper.wp execOp
  simp only [ho, hx, Sem.run_bind, ld_fr hr, Result.andThen_ok, Sem.run_pure]
  exact hK _ _ h
theorem st_none {x : St} {b : Bool} (h : ∀ f ∈ x.plan, hereB x.made b f = false) : stS x b = none := by
  unfold stS
  rw [List.findIdx?_eq_none_iff.2 (fun f hf => by simpa using h f hf)]
theorem st_some {x : St} {b : Bool} {i : Nat} (hi : i < x.plan.length) (hn : ∀ f ∈ x.plan.take i, hereB x.made b f = false) (hy : hereB x.made b x.plan[i] = true) : stS x b = some (flC { x with plan := x.plan.eraseIdx i } x.plan[i].keep x.plan[i].torn) := by
  have e : x.plan.findIdx? (hereB x.made b) = some i := by
    rw [List.findIdx?_eq_some_iff_getElem]
    refine ⟨hi, hy, fun j hj => ?_⟩
    have := hn (x.plan[j]'(by omega)) (by rw [List.mem_take_iff_getElem]; exact ⟨j, by omega, rfl⟩)
    simp [this]
  unfold stS
  rw [e]
  simp only
  rw [List.getElem?_eq_getElem hi]
  rfl
theorem erase_td {α : Type} (L : List α) (i : Nat) : L.take i ++ L.drop (i + 1) = L.eraseIdx i := (List.eraseIdx_eq_take_drop_succ L i).symm
end Go.Proofs.Ythnfpdmhjennlaa
