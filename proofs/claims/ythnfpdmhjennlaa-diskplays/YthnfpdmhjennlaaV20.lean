/- The contracts of the library on slices.Sorted(maps.Keys(m)), laid at this dump. Disks: Names. The document's IsName. -/
import Derived.Shelf.SlIter.Nil
import Derived.Shelf.SortM.Plain
import Derived.Shelf.SortM.SortNone
import Derived.Test.YthnfpdmhjennlaaProg
import Derived.Test.YthnfpdmhjennlaaV19
namespace Go.Proofs.Ythnfpdmhjennlaa
open Go.RowKit Go.Maps Go.Sort Go.Shelf
def keysM_ren : Go.Shelf.Ren := ⟨fun | 7 => 48 | 10 => 61 | n => n, fun | 23 => 39 | 26 => 9 | 3 => 77 | 28 => 98 | 0 => 0 | 27 => 97 | 33 => 75 | 4 => 4 | n => n, fun n => n⟩
theorem keysM : Go.Proofs.SlLaysZ.n7 Try.prog keysM_ren := {
  mixed := by kernel_rfl
  f7 := ⟨ "maps.Keys[bedrock/disk.files,string,[]byte]", of_decide_eq_true (by kernel_rfl), Try.func48.trans (congrArg some (by kernel_rfl))⟩
  f10 := ⟨ "maps.Keys[bedrock/disk.files,string,[]byte]$1", of_decide_eq_true (by kernel_rfl), Try.func61.trans (congrArg some (by kernel_rfl))⟩
  t0 := Try.underlying0
  a0 := Try.isAgg0
  z0 := Try.sizeOf0
  v0 := Try.zeroValue0
  t4 := Try.underlying4
  a4 := Try.isAgg4
  z4 := Try.sizeOf4
  v4 := Try.zeroValue4
  t23 := Try.underlying39
  a23 := Try.isAgg39
  z23 := Try.sizeOf39
  v23 := Try.zeroValue39
  t26 := Try.underlying9
  a26 := Try.isAgg9
  z26 := Try.sizeOf9
  v26 := Try.zeroValue9
  t27 := Try.underlying97
  a27 := Try.isAgg97
  z27 := Try.sizeOf97
  v27 := Try.zeroValue97
  t28 := Try.underlying98
  a28 := Try.isAgg98
  z28 := Try.sizeOf98
  v28 := Try.zeroValue98
  t33 := Try.underlying75
  a33 := Try.isAgg75
  z33 := Try.sizeOf75
  v33 := Try.zeroValue75 }
def sortedM_ren : Go.Shelf.Ren := ⟨fun | 6 => 47 | 8 => 59 | 9 => 60 | 11 => 63 | 13 => 65 | 12 => 64 | 23 => 75 | 24 => 76 | 14 => 66 | 15 => 67 | 16 => 68 | 17 => 69 | 18 => 70 | 19 => 71 | 20 => 72 | 21 => 73 | 22 => 74 | 25 => 77 | 26 => 78 | 27 => 79 | 28 => 80 | 29 => 81 | 30 => 82 | 31 => 83 | n => n, fun | 26 => 9 | 28 => 98 | 24 => 62 | 0 => 0 | 3 => 3 | 37 => 116 | 48 => 127 | 50 => 129 | 4 => 4 | 40 => 119 | 39 => 118 | 45 => 124 | 5 => 5 | 9 => 9 | 51 => 130 | 55 => 134 | 57 => 136 | 58 => 137 | 33 => 75 | n => n, fun n => n⟩
theorem sortedM : Go.Proofs.SlLaysZ.n6 Try.prog sortedM_ren := {
  mixed := by kernel_rfl
  f6 := ⟨ "slices.Sorted[string]", of_decide_eq_true (by kernel_rfl), Try.func47.trans (congrArg some (by kernel_rfl))⟩
  f8 := ⟨ "slices.Collect[string]", of_decide_eq_true (by kernel_rfl), Try.func59.trans (congrArg some (by kernel_rfl))⟩
  f11 := ⟨ "slices.AppendSeq[[]string,string]", of_decide_eq_true (by kernel_rfl), Try.func63.trans (congrArg some (by kernel_rfl))⟩
  t0 := Try.underlying0
  a0 := Try.isAgg0
  z0 := Try.sizeOf0
  v0 := Try.zeroValue0
  t24 := Try.underlying62
  a24 := Try.isAgg62
  z24 := Try.sizeOf62
  v24 := Try.zeroValue62
  t26 := Try.underlying9
  a26 := Try.isAgg9
  z26 := Try.sizeOf9
  v26 := Try.zeroValue9
  t28 := Try.underlying98
  a28 := Try.isAgg98
  z28 := Try.sizeOf98
  v28 := Try.zeroValue98
  i26 := by kernel_rfl }
def sortM_ren : Go.Shelf.Ren := ⟨fun | 6 => 60 | 8 => 65 | 9 => 64 | 19 => 75 | 20 => 76 | 21 => 66 | 22 => 67 | 23 => 68 | 24 => 69 | 25 => 70 | 26 => 71 | 27 => 72 | 28 => 73 | 29 => 74 | 36 => 77 | 31 => 78 | 32 => 79 | 37 => 80 | 38 => 81 | 39 => 82 | 41 => 83 | n => n, fun | 27 => 62 | 29 => 9 | 3 => 3 | 32 => 116 | 26 => 62 | 0 => 0 | 44 => 127 | 46 => 129 | 4 => 4 | 36 => 119 | 35 => 118 | 41 => 124 | 5 => 5 | 9 => 9 | 53 => 130 | 57 => 134 | 63 => 136 | 64 => 137 | n => n, fun n => n⟩
theorem sortM : Go.Proofs.SlLaysM.n6 Try.prog sortM_ren := {
  mixed := by kernel_rfl
  f6 := ⟨ "slices.Sort[[]string,string]", of_decide_eq_true (by kernel_rfl), Try.func60.trans (congrArg some (by kernel_rfl))⟩
  f8 := Try.func65.trans (congrArg some (by kernel_rfl))
  f9 := ⟨ "slices.pdqsortOrdered[string]", of_decide_eq_true (by kernel_rfl), Try.func64.trans (congrArg some (by kernel_rfl))⟩
  f19 := Try.func75.trans (congrArg some (by kernel_rfl))
  f20 := Try.func76.trans (congrArg some (by kernel_rfl))
  f21 := ⟨ "slices.insertionSortOrdered[string]", of_decide_eq_true (by kernel_rfl), Try.func66.trans (congrArg some (by kernel_rfl))⟩
  f22 := ⟨ "slices.heapSortOrdered[string]", of_decide_eq_true (by kernel_rfl), Try.func67.trans (congrArg some (by kernel_rfl))⟩
  f23 := ⟨ "slices.breakPatternsOrdered[string]", of_decide_eq_true (by kernel_rfl), Try.func68.trans (congrArg some (by kernel_rfl))⟩
  f24 := ⟨ "slices.choosePivotOrdered[string]", of_decide_eq_true (by kernel_rfl), Try.func69.trans (congrArg some (by kernel_rfl))⟩
  f25 := ⟨ "slices.reverseRangeOrdered[string]", of_decide_eq_true (by kernel_rfl), Try.func70.trans (congrArg some (by kernel_rfl))⟩
  f26 := ⟨ "slices.partialInsertionSortOrdered[string]", of_decide_eq_true (by kernel_rfl), Try.func71.trans (congrArg some (by kernel_rfl))⟩
  f27 := ⟨ "cmp.Less[string]", of_decide_eq_true (by kernel_rfl), Try.func72.trans (congrArg some (by kernel_rfl))⟩
  f28 := ⟨ "slices.partitionEqualOrdered[string]", of_decide_eq_true (by kernel_rfl), Try.func73.trans (congrArg some (by kernel_rfl))⟩
  f29 := ⟨ "slices.partitionOrdered[string]", of_decide_eq_true (by kernel_rfl), Try.func74.trans (congrArg some (by kernel_rfl))⟩
  f31 := Try.func78.trans (congrArg some (by kernel_rfl))
  f32 := Try.func79.trans (congrArg some (by kernel_rfl))
  f36 := ⟨ "slices.siftDownOrdered[string]", of_decide_eq_true (by kernel_rfl), Try.func77.trans (congrArg some (by kernel_rfl))⟩
  f37 := ⟨ "slices.medianAdjacentOrdered[string]", of_decide_eq_true (by kernel_rfl), Try.func80.trans (congrArg some (by kernel_rfl))⟩
  f38 := ⟨ "slices.medianOrdered[string]", of_decide_eq_true (by kernel_rfl), Try.func81.trans (congrArg some (by kernel_rfl))⟩
  f39 := ⟨ "cmp.isNaN[string]", of_decide_eq_true (by kernel_rfl), Try.func82.trans (congrArg some (by kernel_rfl))⟩
  f41 := ⟨ "slices.order2Ordered[string]", of_decide_eq_true (by kernel_rfl), Try.func83.trans (congrArg some (by kernel_rfl))⟩
  t0 := Try.underlying0
  a0 := Try.isAgg0
  z0 := Try.sizeOf0
  v0 := Try.zeroValue0
  t3 := Try.underlying3
  a3 := Try.isAgg3
  z3 := Try.sizeOf3
  v3 := Try.zeroValue3
  t4 := Try.underlying4
  a4 := Try.isAgg4
  z4 := Try.sizeOf4
  v4 := Try.zeroValue4
  t5 := Try.underlying5
  a5 := Try.isAgg5
  z5 := Try.sizeOf5
  v5 := Try.zeroValue5
  t9 := Try.underlying9
  a9 := Try.isAgg9
  z9 := Try.sizeOf9
  v9 := Try.zeroValue9
  t26 := Try.underlying62
  a26 := Try.isAgg62
  z26 := Try.sizeOf62
  v26 := Try.zeroValue62
  t27 := Try.underlying62
  a27 := Try.isAgg62
  z27 := Try.sizeOf62
  v27 := Try.zeroValue62
  t29 := Try.underlying9
  a29 := Try.isAgg9
  z29 := Try.sizeOf9
  v29 := Try.zeroValue9
  t32 := Try.underlying116
  a32 := Try.isAgg116
  z32 := Try.sizeOf116
  v32 := Try.zeroValue116
  t35 := Try.underlying118
  a35 := Try.isAgg118
  z35 := Try.sizeOf118
  v35 := Try.zeroValue118
  t36 := Try.underlying119
  a36 := Try.isAgg119
  z36 := Try.sizeOf119
  v36 := Try.zeroValue119
  t41 := Try.underlying124
  a41 := Try.isAgg124
  z41 := Try.sizeOf124
  v41 := Try.zeroValue124
  t44 := Try.underlying127
  a44 := Try.isAgg127
  z44 := Try.sizeOf127
  v44 := Try.zeroValue127
  t46 := Try.underlying129
  a46 := Try.isAgg129
  z46 := Try.sizeOf129
  v46 := Try.zeroValue129
  t53 := Try.underlying130
  a53 := Try.isAgg130
  z53 := Try.sizeOf130
  v53 := Try.zeroValue130
  t57 := Try.underlying134
  a57 := Try.isAgg134
  z57 := Try.sizeOf134
  v57 := Try.zeroValue134
  t63 := Try.underlying136
  a63 := Try.isAgg136
  z63 := Try.sizeOf136
  v63 := Try.zeroValue136
  t64 := Try.underlying137
  a64 := Try.isAgg137
  z64 := Try.sizeOf137
  v64 := Try.zeroValue137 }
theorem sortsM (m : Nat) : AnyZ.SortsIn Try.prog sortedM_ren Fence.wide m :=
  ⟨fun blk off cap ss W hH hblk hsz => callsIn_wide.2 (AnyM.slices_Sort_string sortM blk off cap ss W hH hblk hsz),
   fun p cap W => callsIn_wide.2 (AnyM.slices_Sort_string_none sortM p cap W)⟩
theorem mapsKeys_in (mb : Option Nat) (W : World) : CallsIn Fence.wide 5 Try.prog 48 #[.map mb] W fun e w' => e = .returned (.func (.func 61) #[] #[.pointer (some ⟨W.heap.size, 0, none⟩)]) ∧ w' = W.alloc (.cells #[.map mb] 39) :=
  AnyZ.keys_in keysM Fence.wide 5 trivial rfl mb W
set_option maxHeartbeats 1000000 in
theorem sortedKeys_in {H : Type} (b nn : Nat) (D0 : DataW H) (R : Value → Option (DataW H × List MemPlace)) (w : World) (hown : w.ownsMap Try.prog 9 R b nn D0) (hmax : Maps.size D0 ≤ maxLen) (hbytes : Maps.size D0 * 16 ≤ 140737488355328) :
    CallsIn Fence.wide 5 Try.prog 47 #[.func (.func 61) #[] #[.pointer (some ⟨w.heap.size, 0, none⟩)]] (w.alloc (.cells #[.map (some b)] 39)) fun e w' => ∃ (v : Value) (ss : List (List UInt8)), e = .returned v ∧ ss.Perm (strKeys D0) ∧
      w'.ownsRow (w.alloc (.cells #[.map (some b)] 39)).heap.size 9 1 v ss.length ((ss.mergeSort (fun x y => decide (x ≤ y))).map encStr) ∧ (v = .slice none 0 0 ↔ ss = []) ∧ Below (w.alloc (.cells #[.map (some b)] 39)).heap.size (w.alloc (.cells #[.map (some b)] 39)) w' := by
  have hbl := hown.lt
  have hseq : SeqGives Fence.wide 2 Try.prog 61 #[.pointer (some ⟨w.heap.size, 0, none⟩)] encStr (fun ss => ss.Perm (strKeys D0)) (Maps.size D0) (w.alloc (.cells #[.map (some b)] 39)) :=
    AnyZ.keys_gives (ρ := keysM_ren) { keysM with } Fence.wide _ trivial rfl (by omega) w.heap.size b nn D0 _ (by simp) (by simp) (by
      obtain ⟨es, clock, hb, Ft, hs, hD⟩ := hown
      exact ⟨es, clock, (Below.heap_alloc _ _ b hbl).trans hb, Ft, hs, hD⟩)
  exact AnyZ.sorted_in sortedM Fence.wide 5 trivial trivial trivial trivial rfl (by omega) (sortsM _) (enters_of Try.func60 (by kernel_rfl) rfl) 61 #[.pointer (some ⟨w.heap.size, 0, none⟩)] trivial (enters_of Try.func61 (by kernel_rfl) rfl) _ _ hmax hbytes _ hseq
set_option maxHeartbeats 1000000 in
theorem sortedKeysNil_in (w : World) :
    CallsIn Fence.wide 5 Try.prog 47 #[.func (.func 61) #[] #[.pointer (some ⟨w.heap.size, 0, none⟩)]] (w.alloc (.cells #[.map none] 39)) fun e w' => ∃ (v : Value) (ss : List (List UInt8)), e = .returned v ∧ ss = [] ∧
      w'.ownsRow (w.alloc (.cells #[.map none] 39)).heap.size 9 1 v ss.length ((ss.mergeSort (fun x y => decide (x ≤ y))).map encStr) ∧ (v = .slice none 0 0 ↔ ss = []) ∧ Below (w.alloc (.cells #[.map none] 39)).heap.size (w.alloc (.cells #[.map none] 39)) w' := by
  have hseq : SeqGives Fence.wide 2 Try.prog 61 #[.pointer (some ⟨w.heap.size, 0, none⟩)] encStr (fun ss : List (List UInt8) => ss = []) 0 (w.alloc (.cells #[.map none] 39)) :=
    AnyZ.keys_gives_nil (ρ := keysM_ren) { keysM with } Fence.wide _ trivial rfl w.heap.size _ (by simp) (by simp)
  exact AnyZ.sorted_in sortedM Fence.wide 5 trivial trivial trivial trivial rfl (by omega) (sortsM _) (enters_of Try.func60 (by kernel_rfl) rfl) 61 #[.pointer (some ⟨w.heap.size, 0, none⟩)] trivial (enters_of Try.func61 (by kernel_rfl) rfl) _ 0 (Nat.zero_le _) (by omega) _ hseq
end Go.Proofs.Ythnfpdmhjennlaa
namespace Go.Proofs.Ythnfpdmhjennlaa
open Go.RowKit
open Go.Deep
open Go.Lib
open Go.Maps
open Go.Sort
open Go.MapKept Go.ChangeMaps Go.WideElems
set_option linter.unusedVariables false
/-- The names of files, each once. -/
structure Nms (f : FS) (ks : List (List UInt8)) : Prop where
  nd : ks.Nodup
  mem : ∀ k, k ∈ ks ↔ (f.get k).isSome = true
theorem owns_lower {w : World} {B B' : Nat} {e : TypeId} {k : Nat} {v : Value} {n : Nat} {xs : List Value} (h : w.ownsRow B e k v n xs) (hb : B' ≤ B) : w.ownsRow B' e k v n xs := by
  obtain ⟨h1, h2⟩ := h
  refine ⟨h1, ?_⟩
  rcases h2 with h2 | ⟨g, cap, cur, e1, e2, r⟩
  · exact .inl h2
  · exact .inr ⟨g, cap, cur, e1, Nat.le_trans hb e2, r⟩
section
set_option maxRecDepth 10000
set_option maxHeartbeats 2000000
theorem names_nil (gd : Nat) (w : World) (hc : w.cell? ⟨gd, 0, none⟩ = some (.map none)) : Calls Try.prog 25 #[.pointer (some ⟨gd, 0, none⟩)] w fun e w' => ∃ v ks, e = .returned v ∧ Nms FS.none ks ∧ w'.ownsRow w.heap.size 9 1 v ks.length ((ks.mergeSort (fun x y => decide (x ≤ y))).map encStr) ∧ Below w.heap.size w w' := by
  have HK := hide ((callsIn_wide (n := 5)).1 (mapsKeys_in none w))
  have HS := hide ((callsIn_wide (n := 5)).1 (sortedKeysNil_in w))
  go_enter Try.func25, Try.ntmps25
  go_wp2_with (first | (go_at_call 48; refine HK.out.mono ?_; rintro e w1 ⟨rfl, rfl⟩) | (go_at_call 47; refine HS.out.mono ?_; rintro e w2 ⟨v, ss, rfl, hss, hrow, hnil, hb⟩; have R2 := hide (And.intro hss (And.intro hrow hb)); clear hss hrow hnil hb))
  go_ret
  obtain ⟨hs, row, hb⟩ := R2.out
  subst hs
  have b1 := (Below.refl w.heap.size w).alloc (Nat.le_refl _) (.cells #[.map none] 39)
  exact ⟨v, [], rfl, ⟨List.nodup_nil, fun k => by simp [FS.none]⟩, owns_lower row b1.size, below_next b1 hb⟩
theorem names_some (gd b : Nat) (F : List UInt8 → Option Value) (f : FS) (S : Nat → Prop) (w : World) (hc : w.cell? ⟨gd, 0, none⟩ = some (.map (some b))) (h : Fs w b F f S) (hn : f.n < 1000000) : Calls Try.prog 25 #[.pointer (some ⟨gd, 0, none⟩)] w fun e w' => ∃ v ks, e = .returned v ∧ Nms f ks ∧ w'.ownsRow w.heap.size 9 1 v ks.length ((ks.mergeSort (fun x y => decide (x ≤ y))).map encStr) ∧ Below w.heap.size w w' := by
  obtain ⟨D, ho, hh, ha, hs⟩ := h.mp.ex
  have HK := hide ((callsIn_wide (n := 5)).1 (mapsKeys_in (some b) w))
  have HS := hide ((callsIn_wide (n := 5)).1 (sortedKeys_in b f.n D slE w ho (by rw [hs]; unfold maxLen; omega) (by rw [hs]; omega)))
  have NM : Hid (∀ ss : List (List UInt8), ss.Perm (strKeys D) → Nms f ss) := fun ss hp => by
    obtain ⟨es, hD, hpw, _⟩ := ho.entries lawS
    obtain ⟨es0, clock, _, Ft, _, hD0⟩ := ho
    have hk : ∀ p ∈ es, ∃ k, p.1 = .string k := fun p hp => by
      rw [hD] at hD0
      injection hD0 with hD0
      rw [hD0] at hp
      obtain ⟨v, hv⟩ := Maps.fit_keys Ft p (mem_sorted.1 hp)
      obtain ⟨s, _, hs, _⟩ := keyS_inv hv
      exact ⟨_, hs⟩
    have hsk : strKeys D = es.map fun p => strOf p.1 := by rw [hD]; rfl
    rw [hsk] at hp
    refine ⟨hp.nodup_iff.2 ?_, fun k => ?_⟩
    · refine List.pairwise_map.2 (hpw.imp_of_mem fun {p q} hp' hq' hne e => hne ?_)
      obtain ⟨a, ha⟩ := hk p hp'
      obtain ⟨c, hc⟩ := hk q hq'
      rw [ha, hc] at e ⊢
      exact congrArg Lit.string e
    · rw [hp.mem_iff, List.mem_map, ← h.dom, ← hh, hD, Maps.has_eq, List.any_eq_true]
      constructor
      · rintro ⟨p, hpe, rfl⟩
        obtain ⟨a, ha⟩ := hk p hpe
        exact ⟨p, hpe, by rw [ha]; exact WideAt.sameKey_self trivial⟩
      · rintro ⟨p, hpe, hsk⟩
        exact ⟨p, hpe, by rw [WideAt.sameKey_eq hsk]; rfl⟩
  clear h ho hh ha hs hn
  go_enter Try.func25, Try.ntmps25
  go_wp2_with (first | (go_at_call 48; refine HK.out.mono ?_; rintro e w1 ⟨rfl, rfl⟩) | (go_at_call 47; refine HS.out.mono ?_; rintro e w2 ⟨v, ss, rfl, hss, hrow, hnil, hb⟩; have R2 := hide (And.intro hss (And.intro hrow hb)); clear hss hrow hnil hb))
  go_ret
  obtain ⟨hs, row, hb⟩ := R2.out
  have b1 := (Below.refl w.heap.size w).alloc (Nat.le_refl _) (.cells #[.map (some b)] 39)
  exact ⟨v, ss, rfl, NM.out ss hs, owns_lower row b1.size, below_next b1 hb⟩
theorem names_any (gd : Nat) (x : St) (T : Nat → Prop) (w : World) (h : DK w gd x T) (hn : x.now.n < 1000000) : Calls Try.prog 25 #[.pointer (some ⟨gd, 0, none⟩)] w fun e w' => ∃ v ks, e = .returned v ∧ Nms x.now ks ∧ w'.ownsRow w.heap.size 9 1 v ks.length ((ks.mergeSort (fun x y => decide (x ≤ y))).map encStr) ∧ Below w.heap.size w w' := by
  obtain ⟨S1, S2, mn, ms, vo, vp, h⟩ := h
  have c0 : w.cell? ⟨gd, 0, none⟩ = some (.map mn) := h.cell 0 (by decide)
  rcases h.now with ⟨rfl, hs, _⟩ | ⟨b, F, rfl, hf⟩
  · rw [hs]
    exact names_nil gd w c0
  · exact names_some gd b F x.now S1 w c0 hf hn
end
end Go.Proofs.Ythnfpdmhjennlaa
namespace Go.Proofs.Ythnfpdmhjennlaa
open Go.RowKit
open Go.Deep
open Go.Lib
set_option linter.unusedVariables false
theorem of_yes {b : UInt8} (h : ofName b = true) : ((97 : Int) ≤ b.toNat ∧ (b.toNat : Int) ≤ 122) ∨ (¬ (97 : Int) ≤ b.toNat ∧ (48 : Int) ≤ b.toNat ∧ (b.toNat : Int) ≤ 57) ∨ (¬ (97 : Int) ≤ b.toNat ∧ ¬ (48 : Int) ≤ b.toNat ∧ (b.toNat : Int) = 46) ∨ (¬ (97 : Int) ≤ b.toNat ∧ ¬ (48 : Int) ≤ b.toNat ∧ (b.toNat : Int) = 45) := by
  unfold ofName at h
  simp only [Bool.or_eq_true, Bool.and_eq_true, decide_eq_true_eq, beq_iff_eq] at h
  omega
theorem of_no {b : UInt8} (h : ofName b = false) : ((97 : Int) ≤ b.toNat ∧ ¬ (b.toNat : Int) ≤ 122 ∧ (48 : Int) ≤ b.toNat ∧ ¬ (b.toNat : Int) ≤ 57) ∨ (¬ (97 : Int) ≤ b.toNat ∧ (48 : Int) ≤ b.toNat ∧ ¬ (b.toNat : Int) ≤ 57) ∨ (¬ (97 : Int) ≤ b.toNat ∧ ¬ (48 : Int) ≤ b.toNat ∧ ¬ (b.toNat : Int) = 46 ∧ ¬ (b.toNat : Int) = 45) := by
  unfold ofName at h
  simp only [Bool.or_eq_false_iff, Bool.and_eq_false_iff, decide_eq_false_iff_not, beq_eq_false_iff_ne, ne_eq] at h
  omega
theorem all_snocT (s : ByteArray) (k : Nat) (h : k < s.size) : (s.data.toList.take (k + 1)).all ofName = ((s.data.toList.take k).all ofName && ofName s[k]) := by
  rw [List.take_succ_eq_append_getElem (by simpa using h)]
  simp
  rfl
section
set_option maxRecDepth 10000
set_option maxHeartbeats 2000000
theorem risName_any (s : ByteArray) (w : World) (hs : s.size ≤ maxLen) : Calls Try.prog 34 #[.string s] w fun e w' => e = .returned (.bool (isName s.data.toList)) ∧ w' = w := by
  unfold maxLen at hs
  go_enter Try.func34, Try.ntmps34
  go_wp2
  go_loopw [3] (fun i wr => wr = w ∧ ∃ k : Nat, k ≤ s.size ∧ i = .int .i64 k ∧ Hid ((s.data.toList.take k).all ofName = true)) (fun i _ => s.size - (intOf i).toNat)
  case atStart => exact ⟨rfl, 0, Nat.zero_le _, rfl, rfl⟩
  case round =>
    obtain ⟨rfl, k, hk, rfl, ha⟩ := hrel
    by_cases hlt : k < s.size
    · have hsn := hide (all_snocT s k hlt)
      have LT := hide hlt
      have e1 : IntKind.i64.wrap ((k : Int) + 1) = k + 1 := wrapI _ (by omega) (by omega)
      have k1 : (k : Int) < s.size := by omega
      cases hb : ofName (s[k]'hlt)
      · have hno : Hid (isName s.data.toList = false) := by
          have h1 := hsn.out
          rw [hb, Bool.and_false] at h1
          show _ = _
          unfold isName
          have h2 : s.data.toList.all ofName = false := by
            rw [← List.take_append_drop (k + 1) s.data.toList, List.all_append, h1, Bool.false_and]
          rw [h2, Bool.false_and, Bool.false_and]
        have hc := of_no hb
        clear hsn hb
        rcases hc with ⟨h1, h2, h3, h4⟩ | ⟨h1, h2, h3⟩ | ⟨h1, h2, h3, h4⟩
        · have h5 : ¬ ((s[k]'hlt).toNat : Int) = 46 := by omega
          have h6 : ¬ ((s[k]'hlt).toNat : Int) = 45 := by omega
          have y5 : (((s[k]'hlt).toNat : Int) == 46) = false := by simpa using h5
          have y6 : (((s[k]'hlt).toNat : Int) == 45) = false := by simpa using h6
          go_wp2
          go_ret
          exact ⟨by rw [hno.out]; rfl, rfl⟩
        · have h5 : ¬ ((s[k]'hlt).toNat : Int) = 46 := by omega
          have h6 : ¬ ((s[k]'hlt).toNat : Int) = 45 := by omega
          have y5 : (((s[k]'hlt).toNat : Int) == 46) = false := by simpa using h5
          have y6 : (((s[k]'hlt).toNat : Int) == 45) = false := by simpa using h6
          go_wp2
          go_ret
          exact ⟨by rw [hno.out]; rfl, rfl⟩
        · have y5 : (((s[k]'hlt).toNat : Int) == 46) = false := by simpa using h3
          have y6 : (((s[k]'hlt).toNat : Int) == 45) = false := by simpa using h4
          go_wp2
          go_ret
          exact ⟨by rw [hno.out]; rfl, rfl⟩
      · have hyes : Hid ((s.data.toList.take (k + 1)).all ofName = true) := by
          have h1 := hsn.out
          rw [hb, ha.out] at h1
          exact h1
        have hc := of_yes hb
        clear hsn hb
        rcases hc with ⟨h1, h2⟩ | ⟨h1, h2, h3⟩ | ⟨h1, h2, h3⟩ | ⟨h1, h2, h3⟩
        · go_wp2
          go_round
          case rel => exact ⟨trivial, k + 1, LT.out, by go_num, hyes⟩
          case measure => have := LT.out; simp [intOf]; omega
        · go_wp2
          go_round
          case rel => exact ⟨trivial, k + 1, LT.out, by go_num, hyes⟩
          case measure => have := LT.out; simp [intOf]; omega
        · go_wp2
          go_round
          case rel => exact ⟨trivial, k + 1, LT.out, by go_num, hyes⟩
          case measure => have := LT.out; simp [intOf]; omega
        · have h5 : ¬ ((s[k]'hlt).toNat : Int) = 46 := by omega
          go_wp2
          go_round
          case rel => exact ⟨trivial, k + 1, LT.out, by go_num, hyes⟩
          case measure => have := LT.out; simp [intOf]; omega
    · have h0 : ¬ (k : Int) < s.size := by omega
      have hkn : k = s.size := by omega
      subst hkn
      have hall : Hid (isName s.data.toList = (decide (1 ≤ s.size) && decide (s.size ≤ 32))) := by
        show _ = _
        unfold isName
        have h1 := ha.out
        rw [List.take_of_length_le (by simp)] at h1
        rw [h1, Bool.true_and]
        simp
      by_cases h1 : (1 : Int) ≤ s.size <;> by_cases h2 : (s.size : Int) ≤ 32
      all_goals
        go_wp2
        go_ret
        refine ⟨?_, rfl⟩
        rw [hall.out]
        have e1 : (1 ≤ s.size) = ((1 : Int) ≤ s.size) := by apply propext; omega
        have e2 : (s.size ≤ 32) = ((s.size : Int) ≤ 32) := by apply propext; omega
        simp [e1, e2, h1, h2]
end
end Go.Proofs.Ythnfpdmhjennlaa
