/- The law's awake: a ping there and back. -/
import Derived.Test.YtiadfaipmpogbaaGreatPq
namespace Go.Proofs.YtiadfaipmpogbaaGreat
open Go.RowKit
open Go.Deep
theorem low7 : (UInt64.ofNat (leN (txt (lowL (UInt64.toNat 7) 8)).data.toList)).toNat = 7 := by decide +kernel
theorem low7s : (txt (lowL (UInt64.toNat 7) 8)).size = 8 := by decide +kernel
section
set_option maxRecDepth 10000
set_option maxHeartbeats 4000000
theorem awake9 (w : World) : Calls Tryz.prog 10 #[] w fun e w' => e = .returned (.bool true) ∧ Below w.heap.size w w' := by
  have HN : Hid (∀ W, Calls Tryz.prog 18 #[.int .i64 5, .int .u64 7] W fun e w' => e = .returned (.tuple #[.agg ((bareM 5 7).cells nil8).toArray, .int .i64 0]) ∧ Below W.heap.size W w') := fun W => nonced_yes 5 7 (.inl rfl) W
  have HE := hide (fun W => encode_ping 7 W)
  have HD := hide (fun W => decode_ping (txt (lowL (UInt64.toNat 7) 8)) low7s W)
  have h8 : ((txt (lowL (UInt64.toNat 7) 8)).size : Int) = 8 := by rw [low7s]; rfl
  have h7 := low7
  have HO := hide ((bareM 5 7).one nil8 nil8_ok)
  have HZ := hide ((bareM 5 7).size nil8)
  generalize UInt64.ofNat (leN (txt (lowL (UInt64.toNat 7) 8)).data.toList) = n at *
  have HO2 := hide ((bareM 5 n).one nil8 nil8_ok)
  have HZ2 := hide ((bareM 5 n).size nil8)
  have H3 : Hid (((bareM 5 n).cells nil8).toArray[3]? = some (.int .u64 7)) := by
    show _ = _
    rw [show ((bareM 5 n).cells nil8).toArray[3]? = some (.int .u64 (n.toNat : Int)) from rfl, h7]
    rfl
  generalize txt (lowL (UInt64.toNat 7) 8) = T at *
  generalize ((bareM 5 7).cells nil8).toArray = C at *
  generalize ((bareM 5 n).cells nil8).toArray = D at *
  clear h7
  go_enter Tryz.func10, Tryz.ntmps10
  go_upto_region 2 with (first | (go_at_call 18; refine (HN.out _).mono ?_; rintro e W1 ⟨rfl, be⟩; have B1 := hide be; clear be) | (with_reducible refine at_list ?_; first | refine wpList_allocA AM rfl rfl ?_ | refine wpList_store_newA AM rfl _ _ rfl _ rfl C HZ.out HO.out rfl rfl ?_))
  have R2 := hide (heap_alloc_last W1 (.cells C 38))
  have B2 := hide (below_next B1.out ((Below.refl _ _).alloc (Nat.le_refl _) (.cells C 38)))
  generalize W1.alloc (.cells C 38) = W2 at *
  generalize W1.heap.size = g1 at *
  go_upto_region 4 with (first | (go_at_call 7; refine (HE.out _).mono ?_; rintro e W3 ⟨rfl, be⟩; have B3 := hide (below_next B2.out be); clear be) | (go_at_call 14; refine (HD.out _).mono ?_; rintro e W4 ⟨rfl, be⟩; have B4 := hide (below_next B3.out be); clear be) | (with_reducible refine at_list ?_; first | refine wpList_loadS AM _ rfl g1 rfl C HZ.out 38 R2.out rfl ?_ | refine wpList_allocA AM rfl rfl ?_ | refine wpList_store_newA AM rfl _ _ rfl _ rfl D HZ2.out HO2.out rfl rfl ?_))
  have B5 := hide (below_next B4.out ((Below.refl _ _).alloc (Nat.le_refl _) (.cells D 38)))
  have c3 : (W4.alloc (.cells D 38)).cell? ⟨W4.heap.size, 3, none⟩ = some (.int .u64 7) := by rw [cell_of_row _ _ 3 _ _ _ (heap_alloc_last W4 _)]; exact H3.out
  generalize W4.alloc (.cells D 38) = W5 at *
  go_wp2
  go_ret
  exact ⟨rfl, B5.out⟩
end
end Go.Proofs.YtiadfaipmpogbaaGreat
