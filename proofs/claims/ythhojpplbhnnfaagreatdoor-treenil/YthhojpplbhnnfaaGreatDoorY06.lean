/- The calls of a nil tree: their contracts. A header that comes in. -/
import Derived.Test.YthhojpplbhnnfaaGreatDoorX01
import Derived.Test.YthhojpplbhnnfaaGreatDoorX02
import Derived.Test.YthhojpplbhnnfaaGreatDoorX03
import Derived.Test.YthhojpplbhnnfaaGreatDoorX04
import Derived.Test.YthhojpplbhnnfaaGreatDoorX05
import Derived.Test.YthhojpplbhnnfaaGreatDoorX06
import Derived.Test.YthhojpplbhnnfaaGreatDoorX07
import Derived.Test.YthhojpplbhnnfaaGreatDoorX08
import Derived.Test.YthhojpplbhnnfaaGreatDoorX09
import Derived.Test.YthhojpplbhnnfaaGreatDoorX10
import Derived.Test.YthhojpplbhnnfaaGreatDoorX11
import Derived.Test.YthhojpplbhnnfaaGreatDoorX12
import Derived.Test.YthhojpplbhnnfaaGreatDoorX13
import Derived.Test.YthhojpplbhnnfaaGreatDoorX14
import Derived.Test.YthhojpplbhnnfaaGreatDoorX15
import Derived.Test.YthhojpplbhnnfaaGreatDoorX16
import Derived.Test.YthhojpplbhnnfaaGreatDoorX17
import Derived.Test.YthhojpplbhnnfaaGreatDoorX18
import Derived.Test.YthhojpplbhnnfaaGreatDoorX19
import Derived.Test.YthhojpplbhnnfaaGreatDoorX20
import Derived.Test.YthhojpplbhnnfaaGreatDoorX21
import Derived.Test.YthhojpplbhnnfaaGreatDoorX22
import Derived.Test.YthhojpplbhnnfaaGreatDoorX23
import Derived.Test.YthhojpplbhnnfaaGreatDoorX24
import Derived.Test.YthhojpplbhnnfaaGreatDoorX25
import Derived.Test.YthhojpplbhnnfaaGreatDoorX26
import Derived.Test.YthhojpplbhnnfaaGreatDoorX27
import Derived.Test.YthhojpplbhnnfaaGreatDoorX28
import Derived.Test.YthhojpplbhnnfaaGreatDoorX29
import Derived.Test.YthhojpplbhnnfaaGreatDoorX30
import Derived.Test.YthhojpplbhnnfaaGreatDoorX31
import Derived.Test.YthhojpplbhnnfaaGreatDoorX32
import Derived.Test.YthhojpplbhnnfaaGreatDoorX33
import Derived.Test.YthhojpplbhnnfaaGreatDoorX34
import Derived.Test.YthhojpplbhnnfaaGreatDoorX35
import Derived.Test.YthhojpplbhnnfaaGreatDoorX36
import Derived.Test.YthhojpplbhnnfaaGreatDoorX37
import Derived.Test.YthhojpplbhnnfaaGreatDoorX38
import Derived.Test.YthhojpplbhnnfaaGreatDoorX39
import Derived.Test.YthhojpplbhnnfaaGreatDoorX40
import Derived.Test.YthhojpplbhnnfaaGreatDoorX41
import Derived.Test.YthhojpplbhnnfaaGreatDoorX42
import Derived.Test.YthhojpplbhnnfaaGreatDoorX43
import Derived.Test.YthhojpplbhnnfaaGreatDoorX44
import Derived.Test.YthhojpplbhnnfaaGreatDoorY01
import Derived.Test.YthhojpplbhnnfaaGreatDoorY02
import Derived.Test.YthhojpplbhnnfaaGreatDoorY03
import Derived.Test.YthhojpplbhnnfaaGreatDoorY04
import Derived.Test.YthhojpplbhnnfaaGreatDoorY05
namespace Go.Proofs.YthhojpplbhnnfaaGreatDoor
open Go.RowKit
open Go.Deep
open Go.Maps
set_option linter.unusedVariables false
set_option linter.unusedSimpArgs false
theorem mk_h0 (W : World) : (Instr.makeSlice 40 (.int .i64 0) (.int .i64 0)).run Tryz.prog W = .ok (.slice (some ⟨W.heap.size, 0, none⟩) 0 0) (W.alloc (.cells #[] 46)) := by kernel_rfl
section
set_option maxRecDepth 10000
set_option maxHeartbeats 4000000
theorem addT_nil (x : Hd) (n : Int) (w : World) : Calls Tryz.prog 19 #[.pointer none, .agg x.cells.toArray, .int .u32 n] w fun e w' => e = .returned (.tuple #[.bool false, .int .i64 1]) ∧ Below w.heap.size w w' := by
  have B1 := hide ((Below.refl w.heap.size w).alloc (Nat.le_refl _) (.cells x.cells.toArray 48))
  generalize x.cells.toArray = C at *
  go_enter Tryz.func19, Tryz.ntmps19
  go_upto_region 1 with ((with_reducible refine at_list ?_); refine wpList_boxA rfl _ rfl C rfl ?_)
  generalize w.alloc (.cells C 48) = W0 at *
  go_wp2
  go_ret2
  exact ⟨rfl, B1.out⟩
theorem bodyT_nil (l : List UInt8) (w : World) : Calls Tryz.prog 15 #[.pointer none, .agg (hc l)] w fun e w' => e = .returned (.tuple #[.slice none 0 0, .int .i64 1]) ∧ Below w.heap.size w w' := by
  have B1 := hide ((Below.refl w.heap.size w).alloc (Nat.le_refl _) (.cells (hc l) 46))
  generalize hc l = C at *
  go_enter Tryz.func15, Tryz.ntmps15
  go_upto_region 1 with ((with_reducible refine at_list ?_); refine wpList_boxA rfl _ rfl C rfl ?_)
  generalize w.alloc (.cells C 46) = W0 at *
  go_wp2
  go_ret2
  exact ⟨rfl, B1.out⟩
theorem badT_nil (l : List UInt8) (w : World) : Calls Tryz.prog 20 #[.pointer none, .agg (hc l)] w fun e w' => e = .returned (.tuple #[.slice none 0 0, .int .i64 1]) ∧ Below w.heap.size w w' := by
  have B1 := hide ((Below.refl w.heap.size w).alloc (Nat.le_refl _) (.cells (hc l) 46))
  generalize hc l = C at *
  go_enter Tryz.func20, Tryz.ntmps20
  go_upto_region 1 with ((with_reducible refine at_list ?_); refine wpList_boxA rfl _ rfl C rfl ?_)
  generalize w.alloc (.cells C 46) = W0 at *
  go_wp2
  go_ret2
  exact ⟨rfl, B1.out⟩
theorem kidsT_nil (l : List UInt8) (hl : l.length = 32) (w : World) : Calls Tryz.prog 25 #[.pointer none, .agg (hc l)] w fun e w' => e = .returned (.slice none 0 0) ∧ Below w.heap.size w w' := by
  have R3 := hide (heap_alloc_last w (.cells (hc l) 46))
  have B1 := hide ((Below.refl w.heap.size w).alloc (Nat.le_refl _) (.cells (hc l) 46))
  have CZ : Hid ((hc l).size = 32) := by show _ = _; rw [hc_size, hl]
  have HF := hide (fun W => findT_nil l hl W)
  generalize hc l = C at *
  go_enter Tryz.func25, Tryz.ntmps25
  go_upto_region 1 with ((with_reducible refine at_list ?_); refine wpList_boxA rfl _ rfl C rfl ?_)
  generalize w.alloc (.cells C 46) = W0 at *
  go_wp2_with (first | (go_at_call 65; refine (HF.out _).mono ?_; rintro e W1 ⟨rfl, be⟩; have D1 := hide be; clear be) | ((with_reducible refine at_list ?_); refine wpList_loadS A25 _ rfl w.heap.size rfl C CZ.out 46 R3.out (by rfl) ?_))
  go_ret
  exact ⟨rfl, below_next B1.out D1.out⟩
theorem chainT_nil (l : List UInt8) (hl : l.length = 32) (w : World) : Calls Tryz.prog 27 #[.pointer none, .agg (hc l)] w fun e w' => e = .returned (.slice none 0 0) ∧ Below w.heap.size w w' := by
  have R3 := hide (heap_alloc_last w (.cells (hc l) 46))
  have B1 := hide ((Below.refl w.heap.size w).alloc (Nat.le_refl _) (.cells (hc l) 46))
  have CZ : Hid ((hc l).size = 32) := by show _ = _; rw [hc_size, hl]
  have HF := hide (fun W => findT_nil l hl W)
  generalize hc l = C at *
  go_enter Tryz.func27, Tryz.ntmps27
  go_upto_region 1 with ((with_reducible refine at_list ?_); refine wpList_boxA rfl _ rfl C rfl ?_)
  generalize w.alloc (.cells C 46) = W0 at *
  go_wp2_with (first | (go_at_call 65; refine (HF.out _).mono ?_; rintro e W1 ⟨rfl, be⟩; have D1 := hide be; clear be) | ((with_reducible refine at_list ?_); refine wpList_loadS A25 _ rfl w.heap.size rfl C CZ.out 46 R3.out (by rfl) ?_))
  go_ret
  exact ⟨rfl, below_next B1.out D1.out⟩
theorem nextT_nil (l : List UInt8) (hl : l.length = 32) (w : World) : Calls Tryz.prog 30 #[.pointer none, .agg (hc l)] w fun e w' => e = .returned (.int .u32 0) ∧ Below w.heap.size w w' := by
  have R3 := hide (heap_alloc_last w (.cells (hc l) 46))
  have B1 := hide ((Below.refl w.heap.size w).alloc (Nat.le_refl _) (.cells (hc l) 46))
  have CZ : Hid ((hc l).size = 32) := by show _ = _; rw [hc_size, hl]
  have HF := hide (fun W => findT_nil l hl W)
  generalize hc l = C at *
  go_enter Tryz.func30, Tryz.ntmps30
  go_upto_region 1 with ((with_reducible refine at_list ?_); refine wpList_boxA rfl _ rfl C rfl ?_)
  generalize w.alloc (.cells C 46) = W0 at *
  go_wp2_with (first | (go_at_call 65; refine (HF.out _).mono ?_; rintro e W1 ⟨rfl, be⟩; have D1 := hide be; clear be) | ((with_reducible refine at_list ?_); refine wpList_loadS A25 _ rfl w.heap.size rfl C CZ.out 46 R3.out (by rfl) ?_))
  go_ret
  exact ⟨rfl, below_next B1.out D1.out⟩
theorem medT_nil (l : List UInt8) (hl : l.length = 32) (w : World) : Calls Tryz.prog 31 #[.pointer none, .agg (hc l)] w fun e w' => e = .returned (.int .u32 0) ∧ Below w.heap.size w w' := by
  have R3 := hide (heap_alloc_last w (.cells (hc l) 46))
  have B1 := hide ((Below.refl w.heap.size w).alloc (Nat.le_refl _) (.cells (hc l) 46))
  have CZ : Hid ((hc l).size = 32) := by show _ = _; rw [hc_size, hl]
  have HF := hide (fun W => findT_nil l hl W)
  generalize hc l = C at *
  go_enter Tryz.func31, Tryz.ntmps31
  go_upto_region 1 with ((with_reducible refine at_list ?_); refine wpList_boxA rfl _ rfl C rfl ?_)
  generalize w.alloc (.cells C 46) = W0 at *
  go_wp2_with (first | (go_at_call 65; refine (HF.out _).mono ?_; rintro e W1 ⟨rfl, be⟩; have D1 := hide be; clear be) | ((with_reducible refine at_list ?_); refine wpList_loadS A25 _ rfl w.heap.size rfl C CZ.out 46 R3.out (by rfl) ?_))
  go_ret
  exact ⟨rfl, below_next B1.out D1.out⟩
theorem betterT_nil (l : List UInt8) (hl : l.length = 32) (w : World) : Calls Tryz.prog 24 #[.pointer none, .agg (hc l), .agg (hc l)] w fun e w' => e = .returned (.bool false) ∧ Below w.heap.size w w' := by
  have s1 : (w.alloc (.cells (hc l) 46)).heap.size = w.heap.size + 1 := by simp
  have R3 := hide ((Below.heap_alloc _ (.cells (hc l) 46) _ (lt_heap (heap_alloc_last w (.cells (hc l) 46)))).trans (heap_alloc_last w (.cells (hc l) 46)))
  have R4 := hide (heap_alloc_last (w.alloc (.cells (hc l) 46)) (.cells (hc l) 46))
  have B1 := hide (((Below.refl w.heap.size w).alloc (Nat.le_refl _) (.cells (hc l) 46)).alloc (by rw [s1]; omega) (.cells (hc l) 46))
  have CZ : Hid ((hc l).size = 32) := by show _ = _; rw [hc_size, hl]
  have HF := hide (fun W => findT_nil l hl W)
  have ZZ := hide (And.intro zTno.pubA_size zTno.pubA_all)
  rw [s1] at R4
  generalize hc l = C at *
  go_enter Tryz.func24, Tryz.ntmps24
  go_upto_region 1 with ((with_reducible refine at_list ?_); refine wpList_boxA rfl _ rfl C rfl ?_)
  try rw [s1]
  clear s1
  generalize (w.alloc (.cells C 46)).alloc (.cells C 46) = W0 at *
  go_upto_region 2 with (first | (go_at_call 65; refine (HF.out _).mono ?_; rintro e W1 ⟨rfl, be⟩; have D1 := hide be; clear be) | ((with_reducible refine at_list ?_); first | refine wpList_loadS A25 _ rfl w.heap.size rfl C CZ.out 46 R3.out (by rfl) ?_))
  go_wp2
  go_ret
  exact ⟨rfl, below_next B1.out D1.out⟩
theorem aboveT_nil (l : List UInt8) (hl : l.length = 32) (w : World) : Calls Tryz.prog 23 #[.pointer none, .agg (hc l), .agg (hc l)] w fun e w' => e = .returned (.bool false) ∧ Below w.heap.size w w' := by
  have s1 : (w.alloc (.cells (hc l) 46)).heap.size = w.heap.size + 1 := by simp
  have R3 := hide ((Below.heap_alloc _ (.cells (hc l) 46) _ (lt_heap (heap_alloc_last w (.cells (hc l) 46)))).trans (heap_alloc_last w (.cells (hc l) 46)))
  have R4 := hide (heap_alloc_last (w.alloc (.cells (hc l) 46)) (.cells (hc l) 46))
  have B1 := hide (((Below.refl w.heap.size w).alloc (Nat.le_refl _) (.cells (hc l) 46)).alloc (by rw [s1]; omega) (.cells (hc l) 46))
  have CZ : Hid ((hc l).size = 32) := by show _ = _; rw [hc_size, hl]
  have HF := hide (fun W => getT_nil l hl W)
  have ZZ := hide (And.intro zTno.pubA_size zTno.pubA_all)
  rw [s1] at R4
  generalize hc l = C at *
  go_enter Tryz.func23, Tryz.ntmps23
  go_upto_region 1 with ((with_reducible refine at_list ?_); refine wpList_boxA rfl _ rfl C rfl ?_)
  try rw [s1]
  clear s1
  generalize (w.alloc (.cells C 46)).alloc (.cells C 46) = W0 at *
  go_upto_region 2 with (first | (go_at_call 16; refine (HF.out _).mono ?_; rintro e W1 ⟨rfl, be⟩; have D1 := hide be; clear be) | ((with_reducible refine at_list ?_); first | refine wpList_loadS A25 _ rfl (w.heap.size + 1) rfl C CZ.out 46 R4.out (by rfl) ?_ | refine wpList_allocA ANo rfl rfl ?_ | refine wpList_store_newA ANo rfl _ _ rfl _ rfl zTno.pub.toArray ZZ.out.1 ZZ.out.2 rfl rfl ?_))
  have D2 := hide (below_next D1.out ((Below.refl W1.heap.size W1).alloc (Nat.le_refl _) (.cells zTno.pub.toArray 53)))
  generalize W1.alloc (.cells zTno.pub.toArray 53) = W2 at *
  go_wp2
  go_ret
  exact ⟨rfl, below_next B1.out D2.out⟩
theorem tipsT_nil (w : World) : Calls Tryz.prog 26 #[.pointer none] w fun e w' => e = .returned (.slice none 0 0) ∧ Below w.heap.size w w' := by
  have HL := hide lenT_nil
  go_enter Tryz.func26, Tryz.ntmps26
  go_wp2_with (go_at_call 28; refine (HL.out _).mono ?_; rintro e W1 ⟨rfl, hq⟩; subst W1)
  go_loopw [3, 8] (fun s i wr => s = .slice none 0 0 ∧ i = .int .i64 0 ∧ wr = w) (fun _ _ _ => 0)
  case atStart => exact ⟨rfl, rfl, rfl⟩
  case round =>
    obtain ⟨rfl, rfl, rfl⟩ := hrel
    go_wp2
    go_ret
    exact ⟨rfl, Below.refl _ _⟩
theorem allT_nil (w : World) : Calls Tryz.prog 14 #[.pointer none] w fun e w' => ∃ a, e = .returned (.slice a 0 0) ∧ Below w.heap.size w w' := by
  have HL := hide lenT_nil
  go_enter Tryz.func14, Tryz.ntmps14
  go_wp2_with (first | (go_at_call 28; refine (HL.out _).mono ?_; rintro e W1 ⟨rfl, hq⟩; subst W1) | ((with_reducible refine at_list ?_); refine wp_mks14 rfl _ _ _ rfl (.int .i64 0) (.int .i64 0) rfl rfl _ _ (mk_h0 _) ?_))
  have B1 := hide ((Below.refl w.heap.size w).alloc (Nat.le_refl _) (.cells #[] 46))
  generalize w.alloc (.cells #[] 46) = W0 at *
  go_loopw [10] (fun i wr => i = .int .i64 0 ∧ wr = W0) (fun _ _ => 0)
  case atStart => exact ⟨rfl, rfl⟩
  case round =>
    obtain ⟨rfl, rfl⟩ := hrel
    go_wp2
    go_ret
    exact ⟨_, rfl, B1.out⟩
theorem cloneT_nil (w : World) : Calls Tryz.prog 32 #[.pointer none] w fun e w' => e = .returned (.pointer none) ∧ w' = w := by
  go_enter Tryz.func32, Tryz.ntmps32
  go_wp2
  go_ret
  exact ⟨rfl, rfl⟩
theorem bestT_nil (w : World) : Calls Tryz.prog 17 #[.pointer none] w fun e w' => e = .returned (.agg (hc zeros)) ∧ Below w.heap.size w w' := by
  have R4 := hide (heap_alloc_last w (.cells (hc zeros) 46))
  have B1 := hide ((Below.refl w.heap.size w).alloc (Nat.le_refl _) (.cells (hc zeros) 46))
  have HL := hide lenT_nil
  have ZZ := hide (And.intro (show (hc zeros).size = 32 by rw [hc_size, zeros_len]) (hc_one zeros))
  go_enter Tryz.func17, Tryz.ntmps17
  go_upto_region 1 with ((with_reducible refine at_list ?_); refine wpList_allocA A25 rfl rfl ?_)
  generalize w.alloc (.cells (hc zeros) 46) = W0 at *
  go_wp2_with (first | (go_at_call 28; refine (HL.out _).mono ?_; rintro e W1 ⟨rfl, hq⟩; subst W1) | ((with_reducible refine at_list ?_); first | refine wpList_buildA A25 rfl rfl ?_ | refine wpList_storeA A25 rfl _ _ rfl w.heap.size (hc zeros) ZZ.out.1 ZZ.out.2 rfl rfl (hc zeros) ZZ.out.1 46 R4.out ?_))
  exact bodyPost_ret (v := .agg (hc zeros)) (resA A25 Tryz.results17 _ _ w.heap.size 46 _ ZZ.out.1 rfl (setRow_heap _ _ _ _ _ _ R4.out)) rfl ⟨rfl, below_setRow B1.out (Nat.le_refl _) _⟩
theorem bestHT_nil (w : World) : Calls Tryz.prog 29 #[.pointer none] w fun e w' => e = .returned (.agg (hc zeros)) ∧ Below w.heap.size w w' := by
  have R4 := hide (heap_alloc_last w (.cells (hc zeros) 46))
  have B1 := hide ((Below.refl w.heap.size w).alloc (Nat.le_refl _) (.cells (hc zeros) 46))
  have HL := hide lenT_nil
  have ZZ := hide (And.intro (show (hc zeros).size = 32 by rw [hc_size, zeros_len]) (hc_one zeros))
  go_enter Tryz.func29, Tryz.ntmps29
  go_upto_region 1 with ((with_reducible refine at_list ?_); refine wpList_allocA A25 rfl rfl ?_)
  generalize w.alloc (.cells (hc zeros) 46) = W0 at *
  go_wp2_with (first | (go_at_call 28; refine (HL.out _).mono ?_; rintro e W1 ⟨rfl, hq⟩; subst W1) | ((with_reducible refine at_list ?_); first | refine wpList_buildA A25 rfl rfl ?_ | refine wpList_storeA A25 rfl _ _ rfl w.heap.size (hc zeros) ZZ.out.1 ZZ.out.2 rfl rfl (hc zeros) ZZ.out.1 46 R4.out ?_))
  exact bodyPost_ret (v := .agg (hc zeros)) (resA A25 Tryz.results29 _ _ w.heap.size 46 _ ZZ.out.1 rfl (setRow_heap _ _ _ _ _ _ R4.out)) rfl ⟨rfl, below_setRow B1.out (Nat.le_refl _) _⟩
end
end Go.Proofs.YthhojpplbhnnfaaGreatDoor
namespace Go.Proofs.YthhojpplbhnnfaaGreatDoor
open Go.ChangeShapes Go.WideShapes Go.ChangeAt Go.RowKit Go.Joins Go.Deep
set_option linter.unusedVariables false
set_option maxRecDepth 100000
section
variable {H : Type} {enc : TypeId × Value → H} {W : World} {base fuel : Nat} {cs : List Value} {x : DataW H × List MemPlace}
theorem cs_head (h : DataW.trod enc Tryz.prog W 0 (fun _ => true) true fuel 48 cs = some x) : ∃ y : Hd, cs = y.cells := by
  obtain ⟨xs, m, _, _, hlen, hxl, each⟩ := DataW.trod_struct Tryz.underlying48 h
  have hx : xs.length = 6 := hxl
  have hl : cs.length = 68 := hlen.trans (by kernel_rfl)
  have h0 : DataW.trod enc Tryz.prog W 0 (fun _ => true) true m 31 ((cs.drop 0).take 1) = some xs[0] := (each 0 _ rfl).trans (List.getElem?_eq_getElem (by omega))
  have h1 : DataW.trod enc Tryz.prog W 0 (fun _ => true) true m 46 ((cs.drop 1).take 32) = some xs[1] := (each 1 _ rfl).trans (List.getElem?_eq_getElem (by omega))
  have h2 : DataW.trod enc Tryz.prog W 0 (fun _ => true) true m 46 ((cs.drop 33).take 32) = some xs[2] := (each 2 _ rfl).trans (List.getElem?_eq_getElem (by omega))
  have h3 : DataW.trod enc Tryz.prog W 0 (fun _ => true) true m 31 ((cs.drop 65).take 1) = some xs[3] := (each 3 _ rfl).trans (List.getElem?_eq_getElem (by omega))
  have h4 : DataW.trod enc Tryz.prog W 0 (fun _ => true) true m 31 ((cs.drop 66).take 1) = some xs[4] := (each 4 _ rfl).trans (List.getElem?_eq_getElem (by omega))
  have h5 : DataW.trod enc Tryz.prog W 0 (fun _ => true) true m 31 ((cs.drop 67).take 1) = some xs[5] := (each 5 _ rfl).trans (List.getElem?_eq_getElem (by omega))
  obtain ⟨n0, e0⟩ := cs_u32 Tryz.underlying31 h0
  obtain ⟨n1, e1⟩ := cs_hash h1
  obtain ⟨n2, e2⟩ := cs_hash h2
  obtain ⟨n3, e3⟩ := cs_u32 Tryz.underlying31 h3
  obtain ⟨n4, e4⟩ := cs_u32 Tryz.underlying31 h4
  obtain ⟨n5, e5⟩ := cs_u32 Tryz.underlying31 h5
  refine ⟨⟨n0, n1.1, n2.1, n3, n4, n5, n1.2, n2.2⟩, ?_⟩
  have := cut_at 1 e0 rfl
  rw [List.drop_zero, cut_at 33 e1 rfl, cut_at 65 e2 rfl, cut_at 66 e3 rfl, cut_at 67 e4 rfl, cut_at 68 e5 rfl, List.drop_of_length_le (by omega), List.append_nil] at this
  rw [this]
  simp [Hd.cells]
end
section
variable {H : Type} {enc : TypeId × Value → H} {W : World} {base : Nat} {v : Value} {d : DataW H} {p : List MemPlace}
theorem open_head (hv : Value.okWide Tryz.prog W .any base 48 v) (h : DataW.Trod enc Tryz.prog W 0 (fun _ => true) true 48 v d p) : ∃ y : Hd, v = .agg y.cells.toArray := by
  simp only [Value.okWide, Tryz.underlying48] at hv
  obtain ⟨cs, rfl, hsz, _⟩ := hv
  obtain ⟨fuel, hf⟩ := h
  have hc1 : (Value.agg cs).cells.toList = cs.toList := by simp [Value.cells]
  rw [hc1] at hf
  obtain ⟨y, e⟩ := cs_head hf
  exact ⟨y, congrArg Value.agg (Array.toList_inj.1 (by rw [e]))⟩
end
end Go.Proofs.YthhojpplbhnnfaaGreatDoor
