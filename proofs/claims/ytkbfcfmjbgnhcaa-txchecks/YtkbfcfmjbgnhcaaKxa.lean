/- tx.Points, tx.Pairs: their contracts. -/
import Derived.Test.YtkbfcfmjbgnhcaaKu
import Derived.Test.YtkbfcfmjbgnhcaaKo
namespace Go.Proofs.Ytkbfcfmjbgnhcaa
open Go.RowKit
open Go.Deep
set_option linter.unusedVariables false
def zTp : Tp := ⟨zeros, 0, zeros_len⟩
theorem APt : Arr 46 33 zTp.cells.toArray := ⟨.inr ⟨_, Try.underlying46⟩, by kernel_rfl, fun w => by kernel_rfl, fun w => by kernel_rfl, by rw [List.size_toArray, Tp.len]⟩
theorem Tp.size (x : Tp) : x.cells.toArray.size = 33 := by rw [List.size_toArray, x.len]
theorem Tp.all (x : Tp) : x.cells.toArray.all (·.oneCell') = true := by
  rw [Array.all_eq_true_iff_forall_mem]
  intro v hv
  exact x.one v (by simpa using hv)
theorem Ti.ptAt {W : World} {g off : Nat} (x : Ti) (h : W.rangeAt g off x.cells) : W.rangeAt g off x.pt.cells := fun j v hv => by
  refine h j v ?_
  have hj := (List.getElem?_eq_some_iff.1 hv).1
  rw [Tp.len] at hj
  have hl : (cellsL x.hash).length = 32 := by rw [cellsL_len, x.hh]
  have hl2 : (cellsL x.pt.hash).length = 32 := hl
  rw [← hv, Ti.cells, Tp.cells]
  by_cases h32 : j < 32
  · rw [List.getElem?_append_left (by omega), List.getElem?_append_left (by omega)]
    rfl
  · have : j = 32 := by omega
    subst this
    rw [List.getElem?_append_right (by omega), List.getElem?_append_right (by omega), hl, hl2]
    rfl
theorem rowAt {W : World} {g : Nat} {t : TypeId} (cs : List Value) (h : W.heap[g]? = some (.cells cs.toArray t (0, 0))) : W.rangeAt g 0 cs := fun j v hv => by
  rw [cell_of_row _ _ _ _ _ _ h, List.getElem?_toArray, Nat.zero_add]
  exact hv
theorem bld_Pt (x : Tp) (W : World) : (Instr.build 46 #[(0, .agg (hc x.hash)), (1, .int .u32 (x.idx.toNat : Int))]).run Try.prog W = .ok (.agg x.cells.toArray) W := by
  obtain ⟨h, i, hh⟩ := x
  obtain ⟨_, _, _, _, _, _, _, _, _, _, _, _, _, _, _, _, _, _, _, _, _, _, _, _, _, _, _, _, _, _, _, _, rfl⟩ := id32' h hh
  kernel_rfl
section
variable {α : Type} {w : World} {ops : Array Oper} {rest : List Oper} {o : Oper} {a : Act} {Q : Exit → Act → World → Prop}
theorem wpLoadP (x : Operand) (ho : o.op = .load 46 x) (g off : Nat) (hx : a.eval x = .pointer (some ⟨g, off, none⟩)) (y : Tp) (hr : w.rangeAt g off y.cells) (hw : Region.wanted o (yielded ops a.tmps) = true)
    (h : wpList Try.prog ops Q rest (a.put o.dst (.agg y.cells.toArray)) w) : wpList Try.prog ops Q (o :: rest) a w := by
  have ld : (Instr.loadAt 46 (.pointer (some ⟨g, off, none⟩))).run Try.prog w = .ok (.agg y.cells.toArray) w :=
    run_loadAt_mid w g off 46 _ _ hr Try.underlying46 rfl (by rw [y.len]; kernel_rfl)
  refine wpList_step fun K hK => ?_
  rw [if_pos hw]
  unfold Oper.wp execOp
  simp only [ho, hx, ld, Sem.run_bind, Result.andThen_ok, Sem.run_pure]
  exact hK _ _ h
/-- A slice with room alone. -/
theorem Ek.wpMake (E : Ek α) (hgd : o.guard = none) (l c : Operand) (hop : o.op = .makeSlice E.t l c) (kl kc : IntKind) (n : Nat) (hl : a.eval l = .int kl 0) (hc : a.eval c = .int kc (n : Int)) (hb : E.b * n ≤ 281474976710656) (h63 : n ≤ maxLen)
    (h : ∀ w', OX E w' (.slice (some ⟨w.heap.size, 0, none⟩) 0 n) [] → Below w.heap.size w w' → wpList Try.prog ops Q rest (a.put o.dst (.slice (some ⟨w.heap.size, 0, none⟩) 0 n)) w') : wpList Try.prog ops Q (o :: rest) a w := by
  refine wpList_plain hgd fun K hK => ?_
  obtain ⟨i, z, hi, hz, hzs, hs, hby⟩ := E.parts
  obtain ⟨w', hr, h1, h2⟩ := run_make_own (P := Try.prog) w 0 E.t E.e i z E.k E.sl hi hz hs kl kc n (by rw [hby]; exact hb) h63 (Nat.zero_le _)
  unfold Oper.wp
  simp only [execOp, hop, hl, hc, hr, Sem.run_bind, Result.andThen_ok, Sem.run_pure]
  exact hK _ _ (h w' h1 ⟨h2.os, h2.tape, h2.output, h2.size, fun k hk => h2.block k hk (fun e => by cases e)⟩)
/-- An append where there is room. -/
theorem Ek.wpAppIn (E : Ek α) (hgd : o.guard = none) (x y : Operand)
    (ho : o.op = .call { callee := .builtin .append, args := #[x, y], argTypes := #[E.t, E.t] })
    (g n cap : Nat) (L : List α) (hx : a.eval x = .slice (some ⟨g, 0, none⟩) n cap) (hn : n = L.length) (hown : OX E w (.slice (some ⟨g, 0, none⟩) n cap) L)
    (ad : Addr) (e : α) (hy : a.eval y = .slice (some ad) 1 1) (hnews : ∀ j u, (flatE E [e])[j]? = some u → w.cell? (ad.add j) = some u) (hroom : n + 1 ≤ cap)
    (h : ∀ w', OX E w' (.slice (some ⟨g, 0, none⟩) (n + 1) cap) (L ++ [e]) → Onto w w' (.slice (some ⟨g, 0, none⟩) n cap) (.slice (some ⟨g, 0, none⟩) (n + 1) cap) → wpList Try.prog ops Q rest (a.put o.dst (.slice (some ⟨g, 0, none⟩) (n + 1) cap)) w') :
    wpList Try.prog ops Q (o :: rest) a w := by
  obtain ⟨i, z, hi, hz, hzs, hs, hby⟩ := E.parts
  subst hn
  refine wpList_append_own_spare (P := Try.prog) w hgd x y E.t ho 0 E.e i E.k E.sl hi hs g L.length cap (flatE E L) hx hown ad 1 1 (flatE E [e]) hy (by rw [flatE_len]; simp) hnews (flatE_cell E [e]) hroom fun w' h1 h2 => h w' ?_ ⟨h2, .inl rfl⟩
  unfold OX
  rw [List.length_append, flatE_app]
  exact h1
end
section
set_option maxRecDepth 10000
set_option maxHeartbeats 4000000
/-- The points of so many outputs. -/
def pairL (id : Id32) (k : Nat) : List Tp := (List.range k).map fun i => ⟨id.1, UInt32.ofNat i, id.2⟩
theorem pairL_succ (id : Id32) (k : Nat) : pairL id (k + 1) = pairL id k ++ [⟨id.1, UInt32.ofNat k, id.2⟩] := by simp [pairL, List.range_succ]
theorem pairL_len (id : Id32) (k : Nat) : (pairL id k).length = k := by simp [pairL]
end
end Go.Proofs.Ytkbfcfmjbgnhcaa
