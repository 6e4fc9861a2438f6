/- The sum of three letters, and awake. -/
import Derived.Test.YtempdhoccilhdaaDoorM
namespace Go.Proofs.YtempdhoccilhdaaDoor
open Go.RowKit
open Go.Deep
theorem abc_ends : sb (fin [97, 98, 99]) 0 = 186 ∧ sb (fin [97, 98, 99]) 31 = 173 := by
  decide +kernel
theorem idx31 (s : St) (i : Nat) (h : i < 8) (w : World) : (Instr.index 31 (.agg (uc s.list)) (.int .i64 (i : Int))).run Tryd.prog w = .ok (.int .u32 ((s.at i).toNat : Int)) w := by
  obtain ⟨a, b, c, d, e, f, g, k⟩ := s
  rcases i with _ | _ | _ | _ | _ | _ | _ | _ | i
  all_goals first | omega | kernel_rfl
section
set_option maxRecDepth 10000
set_option maxHeartbeats 1000000
theorem awake_any (w : World) (hK : Kg w) : Calls Tryd.prog 9 #[] w fun e w' => e = .returned (.bool true) ∧ Below w.heap.size w w' := by
  have HS := hide fun W hW => sum_any ⟨#[97, 98, 99]⟩ (by decide) W hW
  have hdl := digest_len (⟨#[97, 98, 99]⟩ : ByteArray).data.toList
  have h0 := bytes_at (fin [97, 98, 99]) 0 (by omega)
  have h31 := bytes_at (fin [97, 98, 99]) 31 (by omega)
  rw [abc_ends.1] at h0
  rw [abc_ends.2] at h31
  rw [show (fin [97, 98, 99]).bytes = digest (⟨#[97, 98, 99]⟩ : ByteArray).data.toList from rfl] at h0 h31
  generalize digest (⟨#[97, 98, 99]⟩ : ByteArray).data.toList = D at *
  have HF := hide fun W => first_any W
  have hix : ∀ W, (Instr.index 31 (.agg (uc first.list)) (.int .i64 0)).run Tryd.prog W = .ok (.int .u32 1779033703) W := fun W => idx31 first 0 (by omega) W
  generalize uc first.list = FC at *
  have HK := hide hK
  have H0 := hide h0
  have H31 := hide h31
  clear hK h0 h31
  go_enter Tryd.func9, Tryd.ntmps9
  go_wp2_with (first | (go_at_call 10; refine (HS.out _ HK.out).mono ?_; rintro e w1 ⟨rfl, b1⟩; have B1 := hide (b1.alloc b1.size (.cells (hc D) 25)); have c0 : (w1.alloc (.cells (hc D) 25)).cell? ⟨w1.heap.size, 0, none⟩ = some (.int .u8 186) := (cell_of_row _ _ 0 _ _ _ (heap_alloc_last _ _)).trans H0.out; have c31 : (w1.alloc (.cells (hc D) 25)).cell? ⟨w1.heap.size, 31, none⟩ = some (.int .u8 173) := (cell_of_row _ _ 31 _ _ _ (heap_alloc_last _ _)).trans H31.out; clear b1) | refine wpList_allocA A25 rfl rfl ?_ | refine wpList_store_newA A25 rfl _ _ rfl _ rfl (hc D) (by rw [hc_size, hdl]) (hc_one _) rfl rfl ?_ | (go_at_call 16; refine (HF.out _).mono ?_; rintro e w2 ⟨rfl, b2⟩; have B2 := hide (B1.out.trans (b2.mono B1.out.size)); clear b2))
  go_ret
  exact ⟨rfl, B2.out⟩
end
end Go.Proofs.YtempdhoccilhdaaDoor
