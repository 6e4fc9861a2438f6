/- A digest in memory; the contracts of begun and New. -/
import Derived.Test.YtpjpnkohagcegaaDoorYc
namespace Go.Proofs.YtpjpnkohagcegaaDoor
open Go.RowKit
open Go.Deep
theorem run_build4 (w : World) (a b c d : UInt64) : (Instr.build 78 #[(0, .int .u64 (a.toNat : Int)), (1, .int .u64 (b.toNat : Int)), (2, .int .u64 (c.toNat : Int)), (3, .int .u64 (d.toNat : Int))]).run Tryd.prog w = .ok (.agg (qc [a, b, c, d])) w := by
  kernel_rfl
theorem wpList_build4 {w : World} {ops : Array Oper} {rest : List Oper} {o : Oper} {f : Act} {Q : Exit → Act → World → Prop} (hgd : o.guard = none) (x0 x1 x2 x3 : Operand) (ho : o.op = .build 78 #[(0, x0), (1, x1), (2, x2), (3, x3)]) (a b c d : UInt64)
    (A B C D : Int) (h0 : f.eval x0 = .int .u64 A) (h1 : f.eval x1 = .int .u64 B) (h2 : f.eval x2 = .int .u64 C) (h3 : f.eval x3 = .int .u64 D) (e0 : A = a.toNat) (e1 : B = b.toNat) (e2 : C = c.toNat) (e3 : D = d.toNat)
    (h : wpList Tryd.prog ops Q rest (f.put o.dst (.agg (qc [a, b, c, d]))) w) : wpList Tryd.prog ops Q (o :: rest) f w := by
  subst e0 e1 e2 e3
  refine wpList_plain hgd fun K hK => ?_
  unfold Oper.wp execOp
  simp only [ho, List.map_toArray, List.map_cons, List.map_nil, h0, h1, h2, h3, run_build4 w a b c d, Sem.run_bind, Result.andThen_ok, Sem.run_pure]
  exact hK _ _ h
/-- The cells of a digest. -/
def sA (v : Q4) (t : UInt64) (n : Nat) : Array Value := #[.int .u64 (v.a.toNat : Int), .int .u64 (v.b.toNat : Int), .int .u64 (v.c.toNat : Int), .int .u64 (v.d.toNat : Int), .int .u64 (t.toNat : Int), .int .i64 (n : Int)]
def sF (v : Q4) (t : UInt64) (n j : Nat) : Value := ((sA v t n)[j]?).getD undef
theorem sA_size (v : Q4) (t : UInt64) (n : Nat) : (sA v t n).size = 6 := rfl
theorem sA_one (v : Q4) (t : UInt64) (n : Nat) : (sA v t n).all (·.oneCell') = true := by
  rw [Array.all_eq_true_iff_forall_mem]
  intro x hx
  simp only [sA, List.mem_toArray, List.mem_cons, List.not_mem_nil, or_false] at hx
  rcases hx with rfl | rfl | rfl | rfl | rfl | rfl <;> rfl
theorem sA_at (v : Q4) (t : UInt64) (n j : Nat) (hj : j < 6) : (sA v t n)[j]? = some (sF v t n j) := by
  rcases j with _ | _ | _ | _ | _ | _ | j <;> first | rfl | omega
/-- A digest at block b. -/
def Sst (w : World) (b : Nat) (v : Q4) (t : UInt64) (n : Nat) : Prop := w.rowIs b 87 6 (sF v t n)
section
variable {w w' : World} {b : Nat} {v : Q4} {t : UInt64} {n : Nat}
theorem Sst.lt (h : Sst w b v t n) : b < w.heap.size := World.rowIs.lt h
theorem Sst.of_block (h : Sst w b v t n) (e : w'.heap[b]? = w.heap[b]?) : Sst w' b v t n := World.rowIs.of_block h e
theorem Sst.below (h : Sst w b v t n) (hb : Below w.heap.size w w') : Sst w' b v t n := h.of_block (hb.block b h.lt)
theorem Sst.frozen (h : Sst w b v t n) (i : Nat) : w.frozen? ⟨b, i, none⟩ = false := World.rowIs.frozen h i
theorem Sst.tail (h : Sst w b v t n) : w.cell? ⟨b, 4, none⟩ = some (.int .u64 (t.toNat : Int)) := World.rowIs.cell h (by omega)
theorem Sst.long (h : Sst w b v t n) : w.cell? ⟨b, 5, none⟩ = some (.int .i64 (n : Int)) := World.rowIs.cell h (by omega)
theorem Sst.heap (h : Sst w b v t n) : w.heap[b]? = some (.cells (sA v t n) 87 (0, 0)) := of_row rfl h (fun i hi => sA_at v t n i hi)
theorem Sst.of_heap (h : w.heap[b]? = some (.cells (sA v t n) 87 (0, 0))) : Sst w b v t n := row_of rfl h (fun i hi => sA_at v t n i hi)
theorem Sst.there (h : Sst w b v t n) (o m : Nat) (hm : o + m ≤ 6) : w.there b o m := fun j hj => by
  have := World.rowIs.cell h (show o + j < 6 by omega)
  exact ⟨by rw [this]; rfl, h.frozen _⟩
theorem Sst.range (h : Sst w b v t n) : w.rangeAt b 0 (v.list.map fun x => Value.int .u64 (x.toNat : Int)) := fun j x hv => by
  have hj : j < 4 := by
    rcases Nat.lt_or_ge j 4 with h' | h'
    · exact h'
    · rw [List.getElem?_eq_none (by simpa [Q4.list] using h')] at hv; cases hv
  have := World.rowIs.cell h (show j < 6 by omega)
  rw [Nat.zero_add, this]
  rcases j with _ | _ | _ | _ | j <;> first | omega | (simpa [Q4.list, sF, sA] using hv)
theorem Sst.setTail (h : Sst w b v t n) (x : UInt64) : Sst (w.setCell ⟨b, 4, none⟩ (.int .u64 (x.toNat : Int))) b v x n := by
  refine (World.rowIs.set h 4 _).congr (fun j hj => ?_)
  rcases j with _ | _ | _ | _ | _ | _ | j <;> first | rfl | omega
theorem Sst.setLong (h : Sst w b v t n) (m : Nat) : Sst (w.setCell ⟨b, 5, none⟩ (.int .i64 (m : Int))) b v t m := by
  refine (World.rowIs.set h 5 _).congr (fun j hj => ?_)
  rcases j with _ | _ | _ | _ | _ | _ | j <;> first | rfl | omega
end
theorem A6 : Arr 87 6 (sA qz 0 0) := ⟨.inr ⟨_, Tryd.underlying87⟩, by kernel_rfl, fun w => by kernel_rfl, fun w => by kernel_rfl, rfl⟩
/-- The loads and stores of a digest's four words, under names that the walk does not open. -/
def ldq (x : Value) : Sem Value := Instr.loadAt 78 x
theorem ldq_eq (x : Value) : Instr.loadAt 78 x = ldq x := rfl
def svq (x y : Value) : Sem Unit := Instr.storeAt 78 x y
theorem svq_eq (x y : Value) : Instr.storeAt 78 x y = svq x y := rfl
section
variable {w w' : World} {b : Nat} {v : Q4} {t : UInt64} {n : Nat}
theorem Sst.ld (h : Sst w b v t n) : (ldq (.pointer (some ⟨b, 0, none⟩))).run Tryd.prog w = .ok (.agg (qc v.list)) w :=
  run_loadAt_mid w b 0 78 _ _ h.range Tryd.underlying78 rfl (by kernel_rfl)
theorem Sst.sv (h : Sst w b v t n) (u : Q4) : (svq (.pointer (some ⟨b, 0, none⟩)) (.agg (qc u.list))).run Tryd.prog w = .ok () (w.setCells b 0 (qc u.list).toList) :=
  run_storeAt_mid w b 0 78 (qc u.list) (h.there 0 4 (by omega)) (by kernel_rfl) (qc_one _)
theorem Sst.set4 (h : Sst w b v t n) (u : Q4) : Sst (w.setCells b 0 (qc u.list).toList) b u t n := by
  refine (rowIs_setCells (qc u.list).toList 0 w _ h).congr (fun j hj => ?_)
  have e : (qc u.list).toList.length = 4 := rfl
  rw [e]
  rcases j with _ | _ | _ | _ | _ | _ | j <;> first | rfl | omega
end
theorem run_build6 (w : World) (v : Q4) : (Instr.build 87 #[(0, .agg (qc v.list))]).run Tryd.prog w = .ok (.agg (sA v 0 0)) w := by
  obtain ⟨a, b, c, d⟩ := v
  kernel_rfl
theorem wpList_build6 {w : World} {ops : Array Oper} {rest : List Oper} {o : Oper} {a : Act} {Q : Exit → Act → World → Prop} (hgd : o.guard = none) (x : Operand) (ho : o.op = .build 87 #[(0, x)]) (v : Q4) (hx : a.eval x = .agg (qc v.list))
    (h : wpList Tryd.prog ops Q rest (a.put o.dst (.agg (sA v 0 0))) w) : wpList Tryd.prog ops Q (o :: rest) a w := by
  refine wpList_plain hgd fun K hK => ?_
  unfold Oper.wp execOp
  simp only [ho, List.map_toArray, List.map_cons, List.map_nil, hx, run_build6 w v, Sem.run_bind, Result.andThen_ok, Sem.run_pure]
  exact hK _ _ h
theorem AK : Arr 28 2 (qc [0, 0]) := ⟨.inr ⟨_, Tryd.underlying28⟩, by kernel_rfl, fun w => by kernel_rfl, fun w => by kernel_rfl, rfl⟩
theorem kc0 (x : UInt64) : bits .xor .u64 (x.toNat : Int) 8317987319222330741 = ((x ^^^ 8317987319222330741).toNat : Int) := xor_c x 8317987319222330741 (by decide)
theorem kc1 (x : UInt64) : bits .xor .u64 (x.toNat : Int) 7237128888997146477 = ((x ^^^ 7237128888997146477).toNat : Int) := xor_c x 7237128888997146477 (by decide)
theorem kc2 (x : UInt64) : bits .xor .u64 (x.toNat : Int) 7816392313619706465 = ((x ^^^ 7816392313619706465).toNat : Int) := xor_c x 7816392313619706465 (by decide)
theorem kc3 (x : UInt64) : bits .xor .u64 (x.toNat : Int) 8387220255154660723 = ((x ^^^ 8387220255154660723).toNat : Int) := xor_c x 8387220255154660723 (by decide)
section
set_option maxRecDepth 10000
set_option maxHeartbeats 1000000
theorem begun_any (k0 k1 : UInt64) (w : World) : Calls Tryd.prog 43 #[.agg (qc [k0, k1])] w fun e w' => e = .returned (.agg (qc (begin4 k0 k1).list)) ∧ Below w.heap.size w w' := by
  obtain ⟨b0, b1⟩ := blk2q w (.cells (qc [k0, k1]) 28) (.cells (qc qz.list) 78)
  have BB := hide (below2q w (.cells (qc [k0, k1]) 28) (.cells (qc qz.list) 78))
  have d0 := cell_of_row _ _ 0 _ _ _ b0
  have d1 := cell_of_row _ _ 1 _ _ _ b0
  have H1 := hide b1
  simp only [qc, List.map_cons, List.map_nil, List.getElem?_toArray, List.getElem?_cons_zero, List.getElem?_cons_succ] at d0 d1
  go_enter Tryd.func43, Tryd.ntmps43
  go_upto_region 1 with (first | refine wpList_boxA rfl _ rfl (qc [k0, k1]) rfl ?_ | refine wpList_allocA A4 rfl rfl ?_)
  have c0 : ((w.alloc (.cells (qc [k0, k1]) 28)).alloc (.cells (qc qz.list) 78)).cell? ⟨w.heap.size, 0, none⟩ = some (.int .u64 (k0.toNat : Int)) := d0
  have c1 : ((w.alloc (.cells (qc [k0, k1]) 28)).alloc (.cells (qc qz.list) 78)).cell? ⟨w.heap.size, 1, none⟩ = some (.int .u64 (k1.toNat : Int)) := d1
  clear d0 d1 b0 b1
  generalize (w.alloc (.cells (qc [k0, k1]) 28)).alloc (.cells (qc qz.list) 78) = W0 at *
  go_wp2_with (first | refine wpList_build4 rfl _ _ _ _ rfl (begin4 k0 k1).a (begin4 k0 k1).b (begin4 k0 k1).c (begin4 k0 k1).d _ _ _ _ rfl rfl rfl rfl (kc0 k0) (kc1 k1) (kc2 k0) (kc3 k1) ?_ | refine wpList_storeA A4 rfl _ _ rfl _ (qc (begin4 k0 k1).list) rfl (qc_one _) rfl rfl (qc qz.list) rfl 78 H1.out ?_)
  exact bodyPost_ret (v := .agg (qc (begin4 k0 k1).list)) (resA A4 Tryd.results43 _ _ (w.heap.size + 1) 78 _ rfl rfl (setRow_heap _ _ _ _ _ _ H1.out)) rfl ⟨rfl, below_setRow BB.out (by omega) _⟩
theorem new_any6 (k0 k1 : UInt64) (w : World) : Calls Tryd.prog 30 #[.agg (qc [k0, k1])] w fun e w' => ∃ b, e = .returned (.pointer (some ⟨b, 0, none⟩)) ∧ Sst w' b (begin4 k0 k1) 0 0 ∧ Below w.heap.size w w' ∧ w.heap.size ≤ b := by
  have HK := hide (heap_alloc_last w (.cells (qc [k0, k1]) 28))
  have BB := hide ((Below.refl w.heap.size w).alloc (Nat.le_refl _) (.cells (qc [k0, k1]) 28))
  have HB := hide fun W => begun_any k0 k1 W
  generalize hV : begin4 k0 k1 = v at *
  go_enter Tryd.func30, Tryd.ntmps30
  go_wp2_with (first | refine wpList_boxA rfl _ rfl (qc [k0, k1]) rfl ?_ | refine wpList_loadA AK rfl _ rfl _ rfl (qc [k0, k1]) rfl 28 HK.out ?_ | (go_at_call 43; refine (HB.out _).mono ?_; rintro e w1 ⟨rfl, b1⟩; have B1 := hide (BB.out.trans (b1.mono BB.out.size)); clear b1) | refine wpList_build6 rfl _ rfl v rfl ?_ | refine wpList_boxA rfl _ rfl (sA v 0 0) rfl ?_)
  go_ret
  exact ⟨w1.heap.size, rfl, Sst.of_heap (heap_alloc_last _ _), B1.out.alloc B1.out.size _, B1.out.size⟩
end
end Go.Proofs.YtpjpnkohagcegaaDoor
