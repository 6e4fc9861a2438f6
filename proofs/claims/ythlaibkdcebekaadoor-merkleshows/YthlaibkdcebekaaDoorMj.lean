/- The contract of the statements' awake. -/
import Derived.Test.YthlaibkdcebekaaDoorMi
namespace Go.Proofs.YthlaibkdcebekaaDoor
open Go.RowKit
open Go.Deep
/-- An id whose first byte alone is said. -/
def fst1 (b : UInt8) : List UInt8 := b :: List.replicate 31 0
theorem fst1_len (b : UInt8) : (fst1 b).length = 32 := by simp [fst1]
theorem run_fst1 (b : UInt8) (w : World) : (Instr.build 39 #[(0, .int .u8 (b.toNat : Int))]).run Tryd.prog w = .ok (.agg (hc (fst1 b))) w := by kernel_rfl
section
variable {w : World} {ops : Array Oper} {rest : List Oper} {o : Oper} {a : Act} {Q : Exit → Act → World → Prop}
theorem wpList_bld1 (hw : Region.wanted o (yielded ops a.tmps) = true) {t : TypeId} (x : Operand) (ho : o.op = .build t #[(0, x)]) (v : Value) (c : Array Value) (hr : ∀ W, (Instr.build t #[(0, v)]).run Tryd.prog W = .ok (.agg c) W) (hx : a.eval x = v)
    (h : wpList Tryd.prog ops Q rest (a.put o.dst (.agg c)) w) : wpList Tryd.prog ops Q (o :: rest) a w := by
  refine wpList_step fun K hK => ?_
  rw [if_pos hw]
  unfold Oper.wp execOp
  simp only [ho, List.map_toArray, List.map_cons, List.map_nil, hx, hr w, Sem.run_bind, Result.andThen_ok, Sem.run_pure]
  exact hK _ _ h
end
theorem rtL_one (a : List UInt8) : rtL [a] = a := rfl
theorem muL_one (a : List UInt8) : muL [a] = false := rfl
theorem LH.new1 (w : World) (h : List UInt8) (hl : h.length = 32) {e : TypeId} : LH (w.alloc (.cells (hc h) e)) (.slice (some ⟨w.heap.size, 0, none⟩) 1 1) [h] := by
  refine ⟨H32.one hl, _, 1, rfl, Nat.le_refl _, fun i hi => ⟨w.heap.size, 0, rfl, by simp, ?_⟩⟩
  have : i = 0 := by simpa using hi
  subst this
  intro j u hu
  have := one_newH (e := e) w h j u (by rw [flat_one]; exact hu)
  have hadd : (⟨w.heap.size, 0, none⟩ : Addr).add j = ⟨w.heap.size, 0 + 0 * 32 + j, none⟩ := by unfold Addr.add; split <;> simp_all
  rw [← hadd]
  exact this
section
set_option maxRecDepth 10000
set_option maxHeartbeats 2000000
theorem awake6_any (w : World) (hK : Kg w) : Calls Tryd.prog 7 #[] w fun e w' => e = .returned (.bool true) ∧ Below w.heap.size w w' := by
  have HB : Hid (∀ W, (Instr.build 39 #[(0, .int .u8 7)]).run Tryd.prog W = .ok (.agg (hc (fst1 7))) W) := fun W => run_fst1 7 W
  have l7 := hide (fst1_len 7)
  have HL := hide (LH.new1 w (fst1 7) l7.out (e := 39))
  have B0 := hide ((Below.refl w.heap.size w).alloc (Nat.le_refl _) (.cells (hc (fst1 7)) 39))
  have HR := hide fun W hW hK => root_some (.slice (some ⟨w.heap.size, 0, none⟩) 1 1) [fst1 7] W hW (by simp) (by simp) hK
  rw [rtL_one, muL_one] at HR
  have HD : Hid (∀ W, Calls Tryd.prog 17 #[.int .i64 5] W fun e w' => e = .returned (.int .i64 3) ∧ w' = W) := fun W => depth_any 5 (by decide) W
  have KW : Hid (∀ W, Below w.heap.size w W → Kg W) := fun W h => hK.next h
  have EQ := hide fun W => eqH EH _ _ l7.out l7.out W
  rw [show (fst1 7 == fst1 7) = true by simp] at EQ
  clear hK
  generalize fst1 7 = s7 at *
  go_enter Tryd.func7, Tryd.ntmps7
  go_upto_region 2 with (first | refine wpList_bld1 rfl _ rfl _ (hc s7) HB.out rfl ?_ | refine ET.wpBs1 EH rfl _ rfl s7 l7.out rfl ?_ | (go_at_call 14; refine (HR.out _ HL.out (KW.out _ B0.out)).mono ?_; rintro e w1 ⟨rfl, be⟩; have B1 := hide (below_next B0.out be); clear be) | refine wpList_allocA A25 rfl rfl ?_ | refine wpList_store_newA A25 rfl _ _ rfl _ rfl (hc s7) (by rw [hc_size, l7.out]) (hc_one _) rfl rfl ?_)
  have B2 := hide (below_next B1.out ((Below.refl _ _).alloc (Nat.le_refl _) (.cells (hc s7) 39)))
  have r1 := hide (heap_alloc_last w1 (.cells (hc s7) 39))
  generalize w1.alloc (.cells (hc s7) 39) = W1 at *
  go_wp2_with (first | refine wpList_loadA A25 rfl _ rfl _ rfl (hc s7) (by rw [hc_size, l7.out]) 39 r1.out ?_ | refine wpList_bld1 rfl _ rfl _ (hc s7) HB.out rfl ?_ | refine wpList_eql 39 _ _ _ rfl (hc s7) (hc s7) rfl rfl rfl eqg25 true EQ.out ?_ | (go_at_call 17; refine (HD.out _).mono ?_; rintro e w3 ⟨rfl, hw3⟩; subst w3))
  go_ret
  exact ⟨rfl, B2.out⟩
end
end Go.Proofs.YthlaibkdcebekaaDoor
