/- The law's net: an address as the document has it. -/
import Derived.Test.YtiadfaipmpogbaaGreatPh0
namespace Go.Proofs.YtiadfaipmpogbaaGreat
open Go.RowKit
open Go.Deep
theorem ip16 : ∀ (l : List UInt8), l.length = 16 → ∃ b0 b1 b2 b3 b4 b5 b6 b7 b8 b9 b10 b11 b12 b13 b14 b15, l = [b0, b1, b2, b3, b4, b5, b6, b7, b8, b9, b10, b11, b12, b13, b14, b15]
  | [b0, b1, b2, b3, b4, b5, b6, b7, b8, b9, b10, b11, b12, b13, b14, b15], _ => ⟨b0, b1, b2, b3, b4, b5, b6, b7, b8, b9, b10, b11, b12, b13, b14, b15, rfl⟩
theorem run_bldN (x : Nt) (w : World) : (Instr.build 44 #[(0, .int .u32 (x.time.toNat : Int)), (1, .int .u64 (x.serv.toNat : Int)), (2, .agg (cellsL x.ip).toArray), (3, .int .u16 (x.port.toNat : Int))]).run Tryz.prog w = .ok (.agg x.cells.toArray) w := by
  obtain ⟨t, s, ip, p, h⟩ := x
  obtain ⟨b0, b1, b2, b3, b4, b5, b6, b7, b8, b9, b10, b11, b12, b13, b14, b15, rfl⟩ := ip16 ip h
  kernel_rfl
theorem AN : Arr 27 19 zN.cells.toArray := ⟨.inr ⟨_, Tryz.underlying27⟩, by kernel_rfl, fun w => by kernel_rfl, fun w => by kernel_rfl, by rw [List.size_toArray, Nt.len]⟩
theorem ANr : Arr 44 19 zN.cells.toArray := ⟨.inr ⟨_, Tryz.underlying44⟩, by kernel_rfl, fun w => by kernel_rfl, fun w => by kernel_rfl, by rw [List.size_toArray, Nt.len]⟩
theorem Nt.all (x : Nt) : x.cells.toArray.all (·.oneCell') = true := by
  rw [Array.all_eq_true_iff_forall_mem]
  intro v hv
  exact x.one v (List.mem_toArray.1 hv)
theorem Nt.at_ip (x : Nt) (j : Nat) (h : j < 16) : x.cells[2 + j]? = (cellsL x.ip)[j]? := by
  have l1 : (cellsL x.ip).length = 16 := by rw [cellsL_len, x.hip]
  rw [Nat.add_comm 2 j]
  show (Value.int .u32 (x.time.toNat : Int) :: Value.int .u64 (x.serv.toNat : Int) :: (cellsL x.ip ++ [Value.int .u16 (x.port.toNat : Int)]))[j + 2]? = _
  rw [List.getElem?_cons_succ, List.getElem?_cons_succ, List.getElem?_append_left (by omega)]
def ldP (x : Value) : Sem Value := Instr.loadAt 24 x
theorem ldP_eq (x : Value) : Instr.loadAt 24 x = ldP x := rfl
theorem ldP_run {W : World} {g : Nat} {t : TypeId} {x : Nt} (h : W.heap[g]? = some (.cells x.cells.toArray t (0, 0))) : (ldP (.pointer (some ⟨g, 2, none⟩))).run Tryz.prog W = .ok (.agg (cellsL x.ip).toArray) W := by
  refine run_loadAt_mid W g 2 24 (cellsL x.ip) _ (fun j v hv => ?_) Tryz.underlying24 rfl (by rw [cellsL_len, x.hip]; kernel_rfl)
  have hj := (List.getElem?_eq_some_iff.1 hv).1
  rw [cellsL_len, x.hip] at hj
  rw [cell_of_row W g _ _ _ _ h, List.getElem?_toArray, x.at_ip j hj]
  exact hv
def bdN (x : Array (Nat × Value)) : Sem Value := Instr.build 44 x
theorem bdN_eq (x : Array (Nat × Value)) : Instr.build 44 x = bdN x := rfl
attribute [local go_sem ↓] ldP_eq bdN_eq
section
set_option maxRecDepth 10000
set_option maxHeartbeats 4000000
theorem net_any (x : Nt) (w : World) : Calls Tryz.prog 34 #[.agg x.cells.toArray] w fun e w' => e = .returned (.agg x.cells.toArray) ∧ Below w.heap.size w w' := by
  have b1 : Below w.heap.size w (w.alloc (.cells x.cells.toArray 27)) := (Below.refl _ _).alloc (Nat.le_refl _) _
  have e1 := heap_alloc_last w (.cells x.cells.toArray 27)
  have B2 := hide (b1.alloc b1.size (.cells x.cells.toArray 44))
  have r1 := (Below.heap_alloc _ (.cells zN.cells.toArray 44) _ (lt_heap e1)).trans e1
  have R2 := hide (heap_alloc_last (w.alloc (.cells x.cells.toArray 27)) (.cells x.cells.toArray 44))
  rw [show (w.alloc (.cells x.cells.toArray 27)).heap.size = w.heap.size + 1 by simp] at R2
  have c0 : ((w.alloc (.cells x.cells.toArray 27)).alloc (.cells zN.cells.toArray 44)).cell? ⟨w.heap.size, 0, none⟩ = some (.int .u32 (x.time.toNat : Int)) := by rw [cell_of_row _ _ _ _ _ _ r1]; rfl
  have c1 : ((w.alloc (.cells x.cells.toArray 27)).alloc (.cells zN.cells.toArray 44)).cell? ⟨w.heap.size, 1, none⟩ = some (.int .u64 (x.serv.toNat : Int)) := by rw [cell_of_row _ _ _ _ _ _ r1]; rfl
  have c3 : ((w.alloc (.cells x.cells.toArray 27)).alloc (.cells zN.cells.toArray 44)).cell? ⟨w.heap.size, 18, none⟩ = some (.int .u16 (x.port.toNat : Int)) := by rw [cell_of_row _ _ _ _ _ _ r1]; exact x.port_at
  have c2 := ldP_run r1
  have bn : ∀ W, (bdN #[(0, .int .u32 (x.time.toNat : Int)), (1, .int .u64 (x.serv.toNat : Int)), (2, .agg (cellsL x.ip).toArray), (3, .int .u16 (x.port.toNat : Int))]).run Tryz.prog W = .ok (.agg x.cells.toArray) W := fun W => run_bldN x W
  clear r1 e1 b1
  go_enter Tryz.func34, Tryz.ntmps34
  go_wp2_with (with_reducible refine at_list ?_; first | refine wpList_boxA rfl _ rfl x.cells.toArray rfl ?_ | refine wpList_allocA ANr rfl rfl ?_ | refine wpList_store_newA ANr rfl _ _ rfl _ (by simp) x.cells.toArray (by rw [List.size_toArray, Nt.len]) x.all rfl rfl ?_)
  refine bodyPost_ret (resA ANr rfl _ _ _ _ x.cells.toArray (by rw [List.size_toArray, Nt.len]) rfl R2.out) rfl ?_
  exact ⟨rfl, B2.out⟩
end
end Go.Proofs.YtiadfaipmpogbaaGreat
