/- The contracts of the library on slices.Sorted(maps.Keys(m)), laid at this dump. -/
import Derived.Shelf.SlIter.Nil
import Derived.Shelf.SortM.Plain
import Derived.Shelf.SortM.SortNone
import Derived.Test.YtppooipamibhoaaGreatDoorProg
namespace Go.Proofs.YtppooipamibhoaaGreatDoor
open Go.RowKit Go.Maps Go.Sort Go.Shelf
def keysM_ren : Go.Shelf.Ren := ⟨fun | 7 => 206 | 10 => 279 | n => n, fun | 23 => 230 | 26 => 9 | 3 => 258 | 28 => 337 | 0 => 0 | 27 => 336 | 33 => 234 | 4 => 4 | n => n, fun n => n⟩
theorem keysM : Go.Proofs.SlLaysZ.n7 Tryz.prog keysM_ren := {
  mixed := by kernel_rfl
  f7 := ⟨ "maps.Keys[bedrock/disk.files,string,[]byte]", of_decide_eq_true (by kernel_rfl), Tryz.func206.trans (congrArg some (by kernel_rfl))⟩
  f10 := ⟨ "maps.Keys[bedrock/disk.files,string,[]byte]$1", of_decide_eq_true (by kernel_rfl), Tryz.func279.trans (congrArg some (by kernel_rfl))⟩
  t0 := Tryz.underlying0
  a0 := Tryz.isAgg0
  z0 := Tryz.sizeOf0
  v0 := Tryz.zeroValue0
  t4 := Tryz.underlying4
  a4 := Tryz.isAgg4
  z4 := Tryz.sizeOf4
  v4 := Tryz.zeroValue4
  t23 := Tryz.underlying230
  a23 := Tryz.isAgg230
  z23 := Tryz.sizeOf230
  v23 := Tryz.zeroValue230
  t26 := Tryz.underlying9
  a26 := Tryz.isAgg9
  z26 := Tryz.sizeOf9
  v26 := Tryz.zeroValue9
  t27 := Tryz.underlying336
  a27 := Tryz.isAgg336
  z27 := Tryz.sizeOf336
  v27 := Tryz.zeroValue336
  t28 := Tryz.underlying337
  a28 := Tryz.isAgg337
  z28 := Tryz.sizeOf337
  v28 := Tryz.zeroValue337
  t33 := Tryz.underlying234
  a33 := Tryz.isAgg234
  z33 := Tryz.sizeOf234
  v33 := Tryz.zeroValue234 }
def sortedM_ren : Go.Shelf.Ren := ⟨fun | 6 => 205 | 8 => 277 | 9 => 278 | 11 => 335 | 13 => 241 | 12 => 336 | 23 => 316 | 24 => 317 | 14 => 368 | 15 => 369 | 16 => 370 | 17 => 371 | 18 => 372 | 19 => 373 | 20 => 207 | 21 => 374 | 22 => 375 | 25 => 402 | 26 => 353 | 27 => 354 | 28 => 403 | 29 => 404 | 30 => 280 | 31 => 415 | n => n, fun | 26 => 9 | 28 => 337 | 24 => 112 | 0 => 0 | 3 => 3 | 37 => 290 | 48 => 31 | 50 => 49 | 4 => 4 | 40 => 433 | 39 => 432 | 45 => 164 | 5 => 5 | 9 => 9 | 51 => 463 | 55 => 466 | 57 => 491 | 58 => 492 | 33 => 234 | n => n, fun n => n⟩
theorem sortedM : Go.Proofs.SlLaysZ.n6 Tryz.prog sortedM_ren := {
  mixed := by kernel_rfl
  f6 := ⟨ "slices.Sorted[string]", of_decide_eq_true (by kernel_rfl), Tryz.func205.trans (congrArg some (by kernel_rfl))⟩
  f8 := ⟨ "slices.Collect[string]", of_decide_eq_true (by kernel_rfl), Tryz.func277.trans (congrArg some (by kernel_rfl))⟩
  f11 := ⟨ "slices.AppendSeq[[]string,string]", of_decide_eq_true (by kernel_rfl), Tryz.func335.trans (congrArg some (by kernel_rfl))⟩
  t0 := Tryz.underlying0
  a0 := Tryz.isAgg0
  z0 := Tryz.sizeOf0
  v0 := Tryz.zeroValue0
  t24 := Tryz.underlying112
  a24 := Tryz.isAgg112
  z24 := Tryz.sizeOf112
  v24 := Tryz.zeroValue112
  t26 := Tryz.underlying9
  a26 := Tryz.isAgg9
  z26 := Tryz.sizeOf9
  v26 := Tryz.zeroValue9
  t28 := Tryz.underlying337
  a28 := Tryz.isAgg337
  z28 := Tryz.sizeOf337
  v28 := Tryz.zeroValue337
  i26 := by kernel_rfl }
def sortM_ren : Go.Shelf.Ren := ⟨fun | 6 => 278 | 8 => 241 | 9 => 336 | 19 => 316 | 20 => 317 | 21 => 368 | 22 => 369 | 23 => 370 | 24 => 371 | 25 => 372 | 26 => 373 | 27 => 207 | 28 => 374 | 29 => 375 | 36 => 402 | 31 => 353 | 32 => 354 | 37 => 403 | 38 => 404 | 39 => 280 | 41 => 415 | n => n, fun | 27 => 112 | 29 => 9 | 3 => 3 | 32 => 290 | 26 => 112 | 0 => 0 | 44 => 31 | 46 => 49 | 4 => 4 | 36 => 433 | 35 => 432 | 41 => 164 | 5 => 5 | 9 => 9 | 53 => 463 | 57 => 466 | 63 => 491 | 64 => 492 | n => n, fun n => n⟩
theorem sortM : Go.Proofs.SlLaysM.n6 Tryz.prog sortM_ren := {
  mixed := by kernel_rfl
  f6 := ⟨ "slices.Sort[[]string,string]", of_decide_eq_true (by kernel_rfl), Tryz.func278.trans (congrArg some (by kernel_rfl))⟩
  f8 := Tryz.func241.trans (congrArg some (by kernel_rfl))
  f9 := ⟨ "slices.pdqsortOrdered[string]", of_decide_eq_true (by kernel_rfl), Tryz.func336.trans (congrArg some (by kernel_rfl))⟩
  f19 := Tryz.func316.trans (congrArg some (by kernel_rfl))
  f20 := Tryz.func317.trans (congrArg some (by kernel_rfl))
  f21 := ⟨ "slices.insertionSortOrdered[string]", of_decide_eq_true (by kernel_rfl), Tryz.func368.trans (congrArg some (by kernel_rfl))⟩
  f22 := ⟨ "slices.heapSortOrdered[string]", of_decide_eq_true (by kernel_rfl), Tryz.func369.trans (congrArg some (by kernel_rfl))⟩
  f23 := ⟨ "slices.breakPatternsOrdered[string]", of_decide_eq_true (by kernel_rfl), Tryz.func370.trans (congrArg some (by kernel_rfl))⟩
  f24 := ⟨ "slices.choosePivotOrdered[string]", of_decide_eq_true (by kernel_rfl), Tryz.func371.trans (congrArg some (by kernel_rfl))⟩
  f25 := ⟨ "slices.reverseRangeOrdered[string]", of_decide_eq_true (by kernel_rfl), Tryz.func372.trans (congrArg some (by kernel_rfl))⟩
  f26 := ⟨ "slices.partialInsertionSortOrdered[string]", of_decide_eq_true (by kernel_rfl), Tryz.func373.trans (congrArg some (by kernel_rfl))⟩
  f27 := ⟨ "cmp.Less[string]", of_decide_eq_true (by kernel_rfl), Tryz.func207.trans (congrArg some (by kernel_rfl))⟩
  f28 := ⟨ "slices.partitionEqualOrdered[string]", of_decide_eq_true (by kernel_rfl), Tryz.func374.trans (congrArg some (by kernel_rfl))⟩
  f29 := ⟨ "slices.partitionOrdered[string]", of_decide_eq_true (by kernel_rfl), Tryz.func375.trans (congrArg some (by kernel_rfl))⟩
  f31 := Tryz.func353.trans (congrArg some (by kernel_rfl))
  f32 := Tryz.func354.trans (congrArg some (by kernel_rfl))
  f36 := ⟨ "slices.siftDownOrdered[string]", of_decide_eq_true (by kernel_rfl), Tryz.func402.trans (congrArg some (by kernel_rfl))⟩
  f37 := ⟨ "slices.medianAdjacentOrdered[string]", of_decide_eq_true (by kernel_rfl), Tryz.func403.trans (congrArg some (by kernel_rfl))⟩
  f38 := ⟨ "slices.medianOrdered[string]", of_decide_eq_true (by kernel_rfl), Tryz.func404.trans (congrArg some (by kernel_rfl))⟩
  f39 := ⟨ "cmp.isNaN[string]", of_decide_eq_true (by kernel_rfl), Tryz.func280.trans (congrArg some (by kernel_rfl))⟩
  f41 := ⟨ "slices.order2Ordered[string]", of_decide_eq_true (by kernel_rfl), Tryz.func415.trans (congrArg some (by kernel_rfl))⟩
  t0 := Tryz.underlying0
  a0 := Tryz.isAgg0
  z0 := Tryz.sizeOf0
  v0 := Tryz.zeroValue0
  t3 := Tryz.underlying3
  a3 := Tryz.isAgg3
  z3 := Tryz.sizeOf3
  v3 := Tryz.zeroValue3
  t4 := Tryz.underlying4
  a4 := Tryz.isAgg4
  z4 := Tryz.sizeOf4
  v4 := Tryz.zeroValue4
  t5 := Tryz.underlying5
  a5 := Tryz.isAgg5
  z5 := Tryz.sizeOf5
  v5 := Tryz.zeroValue5
  t9 := Tryz.underlying9
  a9 := Tryz.isAgg9
  z9 := Tryz.sizeOf9
  v9 := Tryz.zeroValue9
  t26 := Tryz.underlying112
  a26 := Tryz.isAgg112
  z26 := Tryz.sizeOf112
  v26 := Tryz.zeroValue112
  t27 := Tryz.underlying112
  a27 := Tryz.isAgg112
  z27 := Tryz.sizeOf112
  v27 := Tryz.zeroValue112
  t29 := Tryz.underlying9
  a29 := Tryz.isAgg9
  z29 := Tryz.sizeOf9
  v29 := Tryz.zeroValue9
  t32 := Tryz.underlying290
  a32 := Tryz.isAgg290
  z32 := Tryz.sizeOf290
  v32 := Tryz.zeroValue290
  t35 := Tryz.underlying432
  a35 := Tryz.isAgg432
  z35 := Tryz.sizeOf432
  v35 := Tryz.zeroValue432
  t36 := Tryz.underlying433
  a36 := Tryz.isAgg433
  z36 := Tryz.sizeOf433
  v36 := Tryz.zeroValue433
  t41 := Tryz.underlying164
  a41 := Tryz.isAgg164
  z41 := Tryz.sizeOf164
  v41 := Tryz.zeroValue164
  t44 := Tryz.underlying31
  a44 := Tryz.isAgg31
  z44 := Tryz.sizeOf31
  v44 := Tryz.zeroValue31
  t46 := Tryz.underlying49
  a46 := Tryz.isAgg49
  z46 := Tryz.sizeOf49
  v46 := Tryz.zeroValue49
  t53 := Tryz.underlying463
  a53 := Tryz.isAgg463
  z53 := Tryz.sizeOf463
  v53 := Tryz.zeroValue463
  t57 := Tryz.underlying466
  a57 := Tryz.isAgg466
  z57 := Tryz.sizeOf466
  v57 := Tryz.zeroValue466
  t63 := Tryz.underlying491
  a63 := Tryz.isAgg491
  z63 := Tryz.sizeOf491
  v63 := Tryz.zeroValue491
  t64 := Tryz.underlying492
  a64 := Tryz.isAgg492
  z64 := Tryz.sizeOf492
  v64 := Tryz.zeroValue492 }
theorem sortsM (m : Nat) : AnyZ.SortsIn Tryz.prog sortedM_ren Fence.wide m :=
  ⟨fun blk off cap ss W hH hblk hsz => callsIn_wide.2 (AnyM.slices_Sort_string sortM blk off cap ss W hH hblk hsz),
   fun p cap W => callsIn_wide.2 (AnyM.slices_Sort_string_none sortM p cap W)⟩
theorem mapsKeys_in (mb : Option Nat) (W : World) : CallsIn Fence.wide 5 Tryz.prog 206 #[.map mb] W fun e w' => e = .returned (.func (.func 279) #[] #[.pointer (some ⟨W.heap.size, 0, none⟩)]) ∧ w' = W.alloc (.cells #[.map mb] 230) :=
  AnyZ.keys_in keysM Fence.wide 5 trivial rfl mb W
set_option maxHeartbeats 1000000 in
theorem sortedKeys_in {H : Type} (b nn : Nat) (D0 : DataW H) (R : Value → Option (DataW H × List MemPlace)) (w : World) (hown : w.ownsMap Tryz.prog 9 R b nn D0) (hmax : Maps.size D0 ≤ maxLen) (hbytes : Maps.size D0 * 16 ≤ 140737488355328) :
    CallsIn Fence.wide 5 Tryz.prog 205 #[.func (.func 279) #[] #[.pointer (some ⟨w.heap.size, 0, none⟩)]] (w.alloc (.cells #[.map (some b)] 230)) fun e w' => ∃ (v : Value) (ss : List (List UInt8)), e = .returned v ∧ ss.Perm (strKeys D0) ∧
      w'.ownsRow (w.alloc (.cells #[.map (some b)] 230)).heap.size 9 1 v ss.length ((ss.mergeSort (fun x y => decide (x ≤ y))).map encStr) ∧ (v = .slice none 0 0 ↔ ss = []) ∧ Below (w.alloc (.cells #[.map (some b)] 230)).heap.size (w.alloc (.cells #[.map (some b)] 230)) w' := by
  have hbl := hown.lt
  have hseq : SeqGives Fence.wide 2 Tryz.prog 279 #[.pointer (some ⟨w.heap.size, 0, none⟩)] encStr (fun ss => ss.Perm (strKeys D0)) (Maps.size D0) (w.alloc (.cells #[.map (some b)] 230)) :=
    AnyZ.keys_gives (ρ := keysM_ren) { keysM with } Fence.wide _ trivial rfl (by omega) w.heap.size b nn D0 _ (by simp) (by simp) (by
      obtain ⟨es, clock, hb, Ft, hs, hD⟩ := hown
      exact ⟨es, clock, (Below.heap_alloc _ _ b hbl).trans hb, Ft, hs, hD⟩)
  exact AnyZ.sorted_in sortedM Fence.wide 5 trivial trivial trivial trivial rfl (by omega) (sortsM _) (enters_of Tryz.func278 (by kernel_rfl) rfl) 279 #[.pointer (some ⟨w.heap.size, 0, none⟩)] trivial (enters_of Tryz.func279 (by kernel_rfl) rfl) _ _ hmax hbytes _ hseq
set_option maxHeartbeats 1000000 in
theorem sortedKeysNil_in (w : World) :
    CallsIn Fence.wide 5 Tryz.prog 205 #[.func (.func 279) #[] #[.pointer (some ⟨w.heap.size, 0, none⟩)]] (w.alloc (.cells #[.map none] 230)) fun e w' => ∃ (v : Value) (ss : List (List UInt8)), e = .returned v ∧ ss = [] ∧
      w'.ownsRow (w.alloc (.cells #[.map none] 230)).heap.size 9 1 v ss.length ((ss.mergeSort (fun x y => decide (x ≤ y))).map encStr) ∧ (v = .slice none 0 0 ↔ ss = []) ∧ Below (w.alloc (.cells #[.map none] 230)).heap.size (w.alloc (.cells #[.map none] 230)) w' := by
  have hseq : SeqGives Fence.wide 2 Tryz.prog 279 #[.pointer (some ⟨w.heap.size, 0, none⟩)] encStr (fun ss : List (List UInt8) => ss = []) 0 (w.alloc (.cells #[.map none] 230)) :=
    AnyZ.keys_gives_nil (ρ := keysM_ren) { keysM with } Fence.wide _ trivial rfl w.heap.size _ (by simp) (by simp)
  exact AnyZ.sorted_in sortedM Fence.wide 5 trivial trivial trivial trivial rfl (by omega) (sortsM _) (enters_of Tryz.func278 (by kernel_rfl) rfl) 279 #[.pointer (some ⟨w.heap.size, 0, none⟩)] trivial (enters_of Tryz.func279 (by kernel_rfl) rfl) _ 0 (Nat.zero_le _) (by omega) _ hseq
end Go.Proofs.YtppooipamibhoaaGreatDoor
