/- The contracts of New, Clone, Len and State. -/
import Derived.Test.YtfldpejdpinppaaDoorI
namespace Go.Proofs.YtfldpejdpinppaaDoor
open Go.RowKit
open Go.Deep
theorem run_build72 (w : World) (s : St) : (Instr.build 119 #[(0, .agg (uc s.list))]).run Tryd.prog w = .ok (.agg (hsA s zeros64 0)) w := by
  obtain ⟨a, b, c, d, e, f, g, h⟩ := s
  kernel_rfl
theorem wpList_build72 {w : World} {ops : Array Oper} {rest : List Oper} {o : Oper} {a : Act} {Q : Exit → Act → World → Prop} (hgd : o.guard = none) (x : Operand) (ho : o.op = .build 119 #[(0, x)]) (s : St) (hx : a.eval x = .agg (uc s.list))
    (h : wpList Tryd.prog ops Q rest (a.put o.dst (.agg (hsA s zeros64 0))) w) : wpList Tryd.prog ops Q (o :: rest) a w := by
  refine wpList_plain hgd fun K hK => ?_
  unfold Oper.wp execOp
  simp only [ho, List.map_toArray, List.map_cons, List.map_nil, hx, run_build72 w s, Sem.run_bind, Result.andThen_ok, Sem.run_pure]
  exact hK _ _ h
theorem Hat.empty {w : World} {b : Nat} (h : w.heap[b]? = some (.cells (hsA first zeros64 0) 119 (0, 0))) : Hat w b [] :=
  ⟨zeros64, zeros64_len, rfl, Hst.of_heap zeros64_len h⟩
section
set_option maxRecDepth 10000
set_option maxHeartbeats 1000000
theorem new_any (w : World) : Calls Tryd.prog 53 #[] w fun e w' => ∃ b, e = .returned (.pointer (some ⟨b, 0, none⟩)) ∧ Hat w' b [] ∧ Below w.heap.size w w' ∧ w.heap.size ≤ b := by
  have HF := hide fun W => first_any W
  go_enter Tryd.func53, Tryd.ntmps53
  go_wp2_with (first | (go_at_call 61; refine (HF.out _).mono ?_; rintro e w1 ⟨rfl, b1⟩) | refine wpList_build72 rfl _ rfl first rfl ?_ | refine wpList_boxA rfl _ rfl (hsA first zeros64 0) rfl ?_)
  go_ret
  exact ⟨w1.heap.size, rfl, Hat.empty (heap_alloc_last _ _), b1.alloc b1.size _, b1.size⟩
theorem write_nil (q : ByteArray) (w : World) : Calls Tryd.prog 54 #[.pointer none, .string q] w fun e w' => e = .returned (.tuple #[]) ∧ w' = w := by
  go_enter Tryd.func54, Tryd.ntmps54
  go_wp2
  exact bodyPost_ret (v := .tuple #[]) (by simp [results, Tryd.results54, go_sem]) rfl ⟨rfl, rfl⟩
end
/-- A part of a hasher's tail, turned into a string. -/
theorem Hst.conv {w : World} {b : Nat} {s : St} {tl : List UInt8} {n : Nat} (hl : tl.length = 64) (h : Hst w b s tl n) (r C : Nat) (hr : r ≤ 64) : (convert 53 9 (.slice (some ⟨b, 8, none⟩) r C)).run Tryd.prog w = .ok (.string ⟨(tl.take r).toArray⟩) w := by
  have hlen : (tl.take r).length = r := by rw [List.length_take]; omega
  have := run_convert_bytes_back (P := Tryd.prog) w 53 9 5 ⟨b, 8, none⟩ C (tl.take r) Tryd.underlying53 Tryd.underlying5 Tryd.underlying9 (fun j hj => by
    rw [Addr.add_mid]
    refine (h.range35 hl) j _ ?_
    rw [hlen] at hj
    simp [cellsL, List.getElem?_eq_getElem (show j < tl.length by omega)])
  rwa [hlen] at this
theorem res31_2 {fn : Func} {p u : Tmp} (hf : fn.results = #[.cell p 116, .tmp u]) (tmps : Array Value) (w : World) (g : Nat) (t : TypeId) (s : St)
    (hp : tmps.getD p undef = .pointer (some ⟨g, 0, none⟩)) (hg : w.heap[g]? = some (.cells (uc s.list) t (0, 0))) (x : Value) (hx : tmps.getD u undef = x) :
    (results fn tmps).run Tryd.prog w = .ok (.tuple #[.agg (uc s.list), x]) w := by
  subst hx
  have hp' : tmps[p]?.getD undef = .pointer (some ⟨g, 0, none⟩) := by simpa using hp
  simp [results, hf, hp', asAddr, run_loadVar_row w g t 116 (uc s.list) (0, 0) _ hg Tryd.underlying116 rfl A31.info]
theorem sv31_row {w : World} {g : Nat} {c0 : Array Value} {t : TypeId} (hn : c0.size = 8) (hg : w.heap[g]? = some (.cells c0 t (0, 0))) (s : St) : (sv31 (.pointer (some ⟨g, 0, none⟩)) (.agg (uc s.list))).run Tryd.prog w = .ok () (w.setRow g (uc s.list)) := by
  unfold sv31
  simp only [Instr.storeAt, Instr.sureAddr, Sem.run_bind, Sem.run_pure, Result.andThen_ok]
  rw [run_storeVar_row w g t 116 c0 (uc s.list) hg A31.info (by rw [hn]; rfl) (uc_one _)]
attribute [local go_sem ↓] ld31_eq sv31_eq
section
set_option maxRecDepth 10000
set_option maxHeartbeats 1000000
end
end Go.Proofs.YtfldpejdpinppaaDoor
