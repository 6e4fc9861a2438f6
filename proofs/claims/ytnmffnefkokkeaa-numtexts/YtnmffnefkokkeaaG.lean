/- Laws for hashes: arrays of 32 bytes that are made, loaded, stored, copied to, compared. -/
import Derived.Test.YtnmffnefkokkeaaE
import Derived.Stop.BytesEq
import Derived.Laws.Tables
import Derived.Lib.LazyBuf
import Derived.Lib.AppendStr
import Derived.Deep.AppendSrc
namespace Go.Proofs.Ytnmffnefkokkeaa
open Go.RowKit

/-- A hash's cells. -/
def hc (l : List UInt8) : Array Value := (cellsL l).toArray
def zeros : List UInt8 := List.replicate 32 0
theorem zeros_len : zeros.length = 32 := by simp [zeros]
theorem hc_size (l : List UInt8) : (hc l).size = l.length := by simp [hc, cellsL]
theorem hc_one (l : List UInt8) : (hc l).all (·.oneCell') = true := by
  rw [Array.all_eq_true_iff_forall_mem]
  intro v hv
  simp only [hc, cellsL, List.mem_toArray, List.mem_map] at hv
  obtain ⟨b, _, rfl⟩ := hv
  rfl
theorem info33 : (Try.prog.info? 33).map (·.size) = some 32 := by kernel_rfl
theorem size5 (w : World) : (sizeOf 5).run Try.prog w = .ok 1 w := by kernel_rfl
theorem run_alloc33 (w : World) : (Instr.alloc 33 true (.tuple #[])).run Try.prog w = .ok (.pointer (some ⟨w.heap.size, 0, none⟩)) (w.alloc (.cells (hc zeros) 33)) := by kernel_rfl
theorem run_build33 (w : World) : (Instr.build 33 #[]).run Try.prog w = .ok (.agg (hc zeros)) w := by kernel_rfl
theorem eq33 (w : World) (a b : List UInt8) (ha : a.length = 32) (hb : b.length = 32) : (binOp .eql 33 (.agg (hc a)) (.agg (hc b))).run Try.prog w = .ok (.bool (a == b)) w :=
  run_eql_bytes w 33 5 32 Try.underlying33 Try.underlying5 size5 a b ha hb
theorem wpList_alloc33 {w : World} {ops : Array Oper} {rest : List Oper} {o : Oper} {a : Act} {Q : Exit → Act → World → Prop} (hgd : o.guard = none) (ho : o.op = .alloc 33)
    (h : wpList Try.prog ops Q rest (a.put o.dst (.pointer (some ⟨w.heap.size, 0, none⟩))) (w.alloc (.cells (hc zeros) 33))) : wpList Try.prog ops Q (o :: rest) a w := by
  refine wpList_plain hgd fun K hK => ?_
  unfold Oper.wp execOp
  simp only [ho, run_alloc33, Sem.run_bind, Result.andThen_ok, Sem.run_pure]
  exact hK _ _ h
theorem wpList_load33 {w : World} {ops : Array Oper} {rest : List Oper} {o : Oper} {a : Act} {Q : Exit → Act → World → Prop} (hgd : o.guard = none) (x : Operand) (ho : o.op = .load 33 x)
    (g : Nat) (hx : a.eval x = .pointer (some ⟨g, 0, none⟩)) (l : List UInt8) (hl : l.length = 32) (t : TypeId) (hg : w.heap[g]? = some (.cells (hc l) t (0, 0)))
    (h : wpList Try.prog ops Q rest (a.put o.dst (.agg (hc l))) w) : wpList Try.prog ops Q (o :: rest) a w :=
  wpList_load_row hgd 33 x ho g hx t (hc l) (0, 0) _ hg Try.underlying33 rfl (by rw [info33, hc_size, hl]) h
theorem wpList_store33 {w : World} {ops : Array Oper} {rest : List Oper} {o : Oper} {a : Act} {Q : Exit → Act → World → Prop} (hgd : o.guard = none) (x y : Operand) (ho : o.op = .store 33 x y)
    (g : Nat) (l : List UInt8) (hl : l.length = 32) (hx : a.eval x = .pointer (some ⟨g, 0, none⟩)) (hy : a.eval y = .agg (hc l)) (l0 : List UInt8) (hl0 : l0.length = 32) (t : TypeId) (hg : w.heap[g]? = some (.cells (hc l0) t (0, 0)))
    (h : wpList Try.prog ops Q rest (a.put o.dst undef) (w.setRow g (hc l))) : wpList Try.prog ops Q (o :: rest) a w :=
  wpList_store_row hgd 33 x y ho g (hc l) hx hy t (hc l0) hg (by rw [info33, hc_size, hl]) (by rw [hc_size, hc_size, hl, hl0]) (hc_one l) h
theorem res33 {fn : Func} {p : Tmp} (hf : fn.results = #[.cell p 33]) (tmps : Array Value) (w : World) (g : Nat) (t : TypeId) (l : List UInt8) (hl : l.length = 32)
    (hp : tmps.getD p undef = .pointer (some ⟨g, 0, none⟩)) (hg : w.heap[g]? = some (.cells (hc l) t (0, 0))) : (results fn tmps).run Try.prog w = .ok (.agg (hc l)) w :=
  results_cell_row hf tmps w g t (hc l) (0, 0) _ hp hg Try.underlying33 rfl (by rw [info33, hc_size, hl])
theorem copy_none (w : World) (d : Option Addr) (a b : Nat) : (Builtin.copy_ #[40, 9] 3 #[.slice d a b, .string ⟨#[]⟩]).run Try.prog w = .ok (.int .i64 0) w := by
  have h0 : (⟨#[]⟩ : ByteArray).size = 0 := rfl
  have h1 : Nat.min 0 a = 0 := by simp
  cases d <;> simp [Builtin.copy_, run_underlying Try.underlying40, Builtin.lenOf, Builtin.firstCells, h0, h1, storeCells, goInt]
theorem copy33 (w : World) (g : Nat) (s : ByteArray) (hs : s.size = 32) (l0 : List UInt8) (hl0 : l0.length = 32) (t : TypeId) (hg : w.heap[g]? = some (.cells (hc l0) t (0, 0))) :
    (Builtin.copy_ #[40, 9] 3 #[.slice (some ⟨g, 0, none⟩) 32 32, .string s]).run Try.prog w = .ok (.int .i64 32) (w.setRow g (hc s.data.toList)) := by
  have hle : (cellsL s.data.toList).length = 32 := by rw [cellsL_len]; simpa using hs
  have hst := run_storeCells_from (P := Try.prog) g t (cellsL s.data.toList) 0 (hc l0) w hg (by rw [hle, hc_size, hl0]) (fun v hv => by simp only [cellsL, List.mem_map] at hv; obtain ⟨b, _, rfl⟩ := hv; rfl)
  have hm : Nat.min 32 32 = 32 := by decide
  have htk : List.take 32 (List.map (fun b : UInt8 => Value.int IntKind.u8 (b.toNat : Int)) s.data.toList) = cellsL s.data.toList := by
    rw [List.take_of_length_le (by rw [← hle]; exact Nat.le_refl _)]
    rfl
  simp only [List.take_zero, List.nil_append] at hst
  simp [Builtin.copy_, run_underlying Try.underlying40, Builtin.lenOf, Builtin.firstCells, hs, hm, goInt]
  rw [htk, hst]
  simp [Result.andThen, hc]
theorem conv33 (w : World) (g : Nat) (l : List UInt8) (hl : l.length = 32) (t : TypeId) (hg : w.heap[g]? = some (.cells (hc l) t (0, 0))) :
    (convert 40 9 (.slice (some ⟨g, 0, none⟩) 32 32)).run Try.prog w = .ok (.string ⟨l.toArray⟩) w := by
  have := run_convert_bytes_back (P := Try.prog) w 40 9 5 ⟨g, 0, none⟩ 32 l Try.underlying40 Try.underlying5 Try.underlying9 (fun j hj => by
    have hadd : (⟨g, 0, none⟩ : Addr).add j = ⟨g, j, none⟩ := by unfold Addr.add; split <;> simp_all
    rw [hadd, cell_of_row w g j _ t (0, 0) hg]
    simp [hc, cellsL, hj])
  rwa [hl] at this
theorem below_setRow {B : Nat} {a w : World} (h : Below B a w) {g : Nat} (hg : B ≤ g) (cs : Array Value) : Below B a (w.setRow g cs) :=
  h.trans ⟨rfl, rfl, rfl, by simp, fun k hk => setRow_other w g k _ (by omega)⟩
theorem Own.form {w : World} {v : Value} {l : List UInt8} (h : Own w v l) : ∃ ao n c, v = .slice ao n c ∧ Hid (n = l.length) := by
  rcases h.2 with ⟨rfl, h0⟩ | ⟨g, cap, cur, rfl, _⟩
  · exact ⟨none, 0, 0, rfl, h0.symm⟩
  · exact ⟨_, _, _, rfl, rfl⟩
theorem run_app_str {w : World} {ty : TypeId} {v : Value} {l : List UInt8} (hown : Own w v l) (s : ByteArray) (hsm : l.length + s.size ≤ 140737488355328) :
    ∃ v' w', (Builtin.append_ #[40, 9] ty #[v, .string s]).run Try.prog w = .ok v' w' ∧ Own w' v' (l ++ s.data.toList) ∧ Onto w w' v v' := by
  obtain ⟨i0, hi, hz0, hz1, hz2⟩ := info_parts info5
  obtain ⟨v', w', hr, h2, h3, h4⟩ := Lib.run_append_own_string (P := Try.prog) w 0 40 9 ty 5 i0 Try.underlying40 Try.underlying9 hi hz0 hz1 hz2 v l.length (cellsL l) hown s (by unfold maxLen; omega) hsm (Nat.zero_le _)
  refine ⟨v', w', hr, ?_, ⟨h3, ?_⟩⟩
  · unfold Own
    rw [List.length_append, cellsL_app]
    exact h2
  · have hS : Src Try.prog i0.size 9 (.string s) s.size (Go.byteCells s) w := by rw [hz1]; exact Src.ofString w Try.underlying9 s
    rcases hown.2 with ⟨rfl, h0⟩ | ⟨g, cap, cur, rfl, hb, hg, hn, hm, hsz, ht⟩
    · by_cases hs0 : s.size = 0
      · have e : v' = .slice none 0 0 := h4.2 ⟨rfl, hs0⟩
        exact .inl (by rw [e])
      · have hr2 := run_append_grow_src (P := Try.prog) w 40 9 ty 5 i0 (.int .u8 0) Try.underlying40 hi hz0 none 0 0 [] (run_firstCells_none w.drew i0.size 0 0 0) (.string s) s.size (Go.byteCells s) hS (by omega) (by omega) (growslice_fits (by omega) (by rw [hz2]; omega))
        rw [hr] at hr2
        injection hr2 with e1 e2
        exact .inr ⟨w.heap.size, by rw [e1]; rfl, Nat.le_refl _⟩
    · by_cases hroom : l.length + s.size ≤ cap
      · have hr2 := run_append_room_src (P := Try.prog) w 40 9 ty 5 i0 Try.underlying40 hi g 0 l.length cap (.string s) s.size (Go.byteCells s) hS hroom
          (fun j hj => by rw [byteCells_length] at hj; rw [cell_of_row w g _ cur 5 (0, 0) hg, Array.getElem?_eq_getElem (by rw [hz1]; omega)]; rfl)
          (fun j hj => frozen_of_row w g _ cur 5 hg)
        rw [hr] at hr2
        injection hr2 with e1 e2
        exact .inl (by rw [e1]; rfl)
      · have hr2 := run_append_grow_src (P := Try.prog) w 40 9 ty 5 i0 (.int .u8 0) Try.underlying40 hi hz0 (some ⟨g, 0, none⟩) l.length cap (cellsL l)
          (run_firstCells_some w.drew i0.size l.length ⟨g, 0, none⟩ l.length cap (cellsL l) (by rw [hz1, cellsL_len, Nat.mul_one]) (fun j u hu => World.ownsRow.cells hown (g := g) rfl j u hu))
          (.string s) s.size (Go.byteCells s) hS (by omega) (by omega) (growslice_fits (by omega) (by rw [hz2]; omega))
        rw [hr] at hr2
        injection hr2 with e1 e2
        exact .inr ⟨w.heap.size, by rw [e1]; rfl, Nat.le_refl _⟩
theorem wpList_app_str {w : World} {ops : Array Oper} {rest : List Oper} {o : Oper} {a : Act} {Q : Exit → Act → World → Prop} (hgd : o.guard = none) (sl x : Operand)
    (ho : o.op = .call { callee := .builtin .append, args := #[sl, x], argTypes := #[40, 9] })
    (v : Value) (l : List UInt8) (hs : a.eval sl = v) (hown : Own w v l) (s : ByteArray) (hx : a.eval x = .string s) (hsm : l.length + s.size ≤ 140737488355328)
    (h : ∀ v' w', Own w' v' (l ++ s.data.toList) → Onto w w' v v' → wpList Try.prog ops Q rest (a.put o.dst v') w') :
    wpList Try.prog ops Q (o :: rest) a w := by
  refine wpList_plain hgd fun K hK => ?_
  obtain ⟨v', w', hr, h2, h3⟩ := run_app_str (ty := o.type) hown s hsm
  unfold Oper.wp execOp
  simp only [ho, resolve, invoke, builtin, Sem.run_bind, Sem.run_pure, Result.andThen_ok, List.map_toArray, List.map_cons, List.map_nil, hs, hx, hr]
  exact hK _ _ (h v' w' h2 h3)
end Go.Proofs.Ytnmffnefkokkeaa
