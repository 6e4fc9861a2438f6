/- Missing on a nil tree; Make of a tree of one node; the law's awake: their contracts. Make of a tree of one node; the law's awake; LocateNil's walk. The law's awake (the locator of genesis); LocateNil's walk. -/
import Derived.Test.YthhojpplbhnnfaaGreatDoorX42
namespace Go.Proofs.YthhojpplbhnnfaaGreatDoor
open Go.RowKit
open Go.Deep
open Go.Maps
set_option linter.unusedVariables false
set_option linter.unusedSimpArgs false
section
set_option maxRecDepth 10000
set_option maxHeartbeats 4000000
theorem missL_nil (l m : List UInt8) (hl : l.length = 32) (hm : m.length = 32) (n : Int) (f : Value) (w : World) : Calls Tryz.prog 45 #[.pointer none, .agg (hc l), .agg (hc m), .int .i64 n, f] w fun e w' => e = .returned (.tuple #[.slice none 0 0, .int .i64 2]) ∧ Below w.heap.size w w' := by
  have s1 : (w.alloc (.cells (hc l) 46)).heap.size = w.heap.size + 1 := by simp
  have R3 := hide ((Below.heap_alloc _ (.cells (hc m) 46) _ (lt_heap (heap_alloc_last w (.cells (hc l) 46)))).trans (heap_alloc_last w (.cells (hc l) 46)))
  have R4 := hide (heap_alloc_last (w.alloc (.cells (hc l) 46)) (.cells (hc m) 46))
  have B1 := hide (((Below.refl w.heap.size w).alloc (Nat.le_refl _) (.cells (hc l) 46)).alloc (by rw [s1]; omega) (.cells (hc m) 46))
  have CZ : Hid ((hc l).size = 32 ∧ (hc m).size = 32) := ⟨by rw [hc_size, hl], by rw [hc_size, hm]⟩
  have HF := hide (fun W => pathL_nil l m hl hm W)
  rw [s1] at R4
  generalize hc l = C at *
  generalize hc m = C2 at *
  go_enter_defers Tryz.func45, Tryz.ntmps45
  go_upto_region 1 with ((with_reducible refine at_list ?_); first | refine wpList_boxA rfl _ rfl C rfl ?_ | refine wpList_boxA rfl _ rfl C2 rfl ?_)
  try rw [s1]
  clear s1
  have x2 : ((w.alloc (.cells C 46)).alloc (.cells C2 46)).heap.size = w.heap.size + 1 + 1 := by simp
  have e5 := heap_alloc_last ((w.alloc (.cells C 46)).alloc (.cells C2 46)) (.cells #[.slice none 0 0] 40)
  have e6 := heap_alloc_last (((w.alloc (.cells C 46)).alloc (.cells C2 46)).alloc (.cells #[.slice none 0 0] 40)) (.cells #[.int .i64 0] 42)
  have x3 : (((w.alloc (.cells C 46)).alloc (.cells C2 46)).alloc (.cells #[.slice none 0 0] 40)).heap.size = w.heap.size + 1 + 1 + 1 := by simp
  have R5 := hide ((Below.heap_alloc _ (.cells #[.int .i64 0] 42) _ (lt_heap e5)).trans e5)
  have R6 := hide e6
  have R3b := hide ((Below.heap_alloc _ (.cells #[.int .i64 0] 42) _ (Nat.lt_of_lt_of_le (lt_heap R3.out) (by simp))).trans ((Below.heap_alloc _ (.cells #[.slice none 0 0] 40) _ (lt_heap R3.out)).trans R3.out))
  have R4b := hide ((Below.heap_alloc _ (.cells #[.int .i64 0] 42) _ (Nat.lt_of_lt_of_le (lt_heap R4.out) (by simp))).trans ((Below.heap_alloc _ (.cells #[.slice none 0 0] 40) _ (lt_heap R4.out)).trans R4.out))
  have B2 := hide ((B1.out.alloc (by simp; omega) (.cells #[.slice none 0 0] 40)).alloc (by simp; omega) (.cells #[.int .i64 0] 42))
  rw [x2] at R5
  rw [x3] at R6
  clear x2 x3 e5 e6 R3 R4 B1
  generalize (((w.alloc (.cells C 46)).alloc (.cells C2 46)).alloc (.cells #[.slice none 0 0] 40)).alloc (.cells #[.int .i64 0] 42) = W0 at *
  have c6 : W0.cell? ⟨w.heap.size + 1 + 1 + 1, 0, none⟩ = some (.int .i64 0) := by rw [cell_of_row _ _ _ _ _ _ R6.out]; rfl
  have CF : Hid (∀ W, Below W0.heap.size W0 W → W.cell? ⟨w.heap.size + 1 + 1 + 1, 0, none⟩ = some (.int .i64 0) ∧ W.frozen? ⟨w.heap.size + 1 + 1 + 1, 0, none⟩ = false ∧ W.cell? ⟨w.heap.size + 1 + 1, 0, none⟩ = some (.slice none 0 0) ∧ W.frozen? ⟨w.heap.size + 1 + 1, 0, none⟩ = false) := fun W b => by
    have e5 := (b.block _ (lt_heap R5.out)).trans R5.out
    have e6 := (b.block _ (lt_heap R6.out)).trans R6.out
    exact ⟨by rw [cell_of_row _ _ _ _ _ _ e6]; rfl, frozen_of_row W _ 0 _ _ e6, by rw [cell_of_row _ _ _ _ _ _ e5]; rfl, frozen_of_row W _ 0 _ _ e5⟩
  clear c6
  go_wp2_with (first | (go_at_call 44; refine (HF.out _).mono ?_; rintro e W1 ⟨rfl, be⟩; have D1 := hide be; clear be; obtain ⟨c6, f6, c5, f5⟩ := CF.out _ D1.out) | ((with_reducible refine at_list ?_); first | refine wpList_loadS A25 _ rfl w.heap.size rfl C CZ.out.1 46 R3b.out (by rfl) ?_ | refine wpList_loadS A25 _ rfl (w.heap.size + 1) rfl C2 CZ.out.2 46 R4b.out (by rfl) ?_))
  have B3 := hide (below_next B2.out D1.out)
  have x6 := hide ((D1.out.block _ (lt_heap R6.out)).trans R6.out)
  have x5 := hide ((D1.out.block _ (lt_heap R5.out)).trans R5.out)
  have q6 := hide (heap_setCell_same W1 (w.heap.size + 1 + 1 + 1) 0 _ _ (.int .i64 2) x6.out)
  have q5 := hide ((Below.heap_setCell W1 ⟨w.heap.size + 1 + 1 + 1, 0, none⟩ (.int .i64 2) (w.heap.size + 1 + 1) (show w.heap.size + 1 + 1 ≠ w.heap.size + 1 + 1 + 1 by omega)).trans x5.out)
  have B4 : Hid (Below w.heap.size w (W1.setCell ⟨w.heap.size + 1 + 1 + 1, 0, none⟩ (.int .i64 2))) := B3.out.setCell (show w.heap.size ≤ w.heap.size + 1 + 1 + 1 by omega) _
  clear c6 f6 c5 f5 x5 x6
  generalize W1.setCell ⟨w.heap.size + 1 + 1 + 1, 0, none⟩ (.int .i64 2) = W2 at *
  have c6 : W2.cell? ⟨w.heap.size + 1 + 1 + 1, 0, none⟩ = some (.int .i64 2) := by rw [cell_of_row _ _ _ _ _ _ q6.out]; rfl
  have f6 := frozen_of_row W2 _ 0 _ _ q6.out
  have c5 : W2.cell? ⟨w.heap.size + 1 + 1, 0, none⟩ = some (.slice none 0 0) := by rw [cell_of_row _ _ _ _ _ _ q5.out]; rfl
  have f5 := frozen_of_row W2 _ 0 _ _ q5.out
  go_region
  all_goals go_wp2
  all_goals
    have n1 := heap_setCell_same W2 (w.heap.size + 1 + 1) 0 _ _ (.slice none 0 0) q5.out
    have n2 := (Below.heap_setCell W2 ⟨w.heap.size + 1 + 1, 0, none⟩ (.slice none 0 0) (w.heap.size + 1 + 1 + 1) (show w.heap.size + 1 + 1 + 1 ≠ w.heap.size + 1 + 1 by omega)).trans q6.out
    have n3 := heap_setCell_same (W2.setCell ⟨w.heap.size + 1 + 1, 0, none⟩ (.slice none 0 0)) (w.heap.size + 1 + 1 + 1) 0 _ _ (.int .i64 2) n2
    have n4 := (Below.heap_setCell (W2.setCell ⟨w.heap.size + 1 + 1, 0, none⟩ (.slice none 0 0)) ⟨w.heap.size + 1 + 1 + 1, 0, none⟩ (.int .i64 2) (w.heap.size + 1 + 1) (show w.heap.size + 1 + 1 ≠ w.heap.size + 1 + 1 + 1 by omega)).trans n1
    have BB : Below w.heap.size w (((W2.setCell ⟨w.heap.size + 1 + 1, 0, none⟩ (.slice none 0 0)).setCell ⟨w.heap.size + 1 + 1 + 1, 0, none⟩ (.int .i64 2)).drew) := ((B4.out.setCell (show w.heap.size ≤ w.heap.size + 1 + 1 by omega) _).setCell (show w.heap.size ≤ w.heap.size + 1 + 1 + 1 by omega) _).drew
    clear c6 f6 c5 f5
    have k3 : ((W2.setCell ⟨w.heap.size + 1 + 1, 0, none⟩ (.slice none 0 0)).setCell ⟨w.heap.size + 1 + 1 + 1, 0, none⟩ (.int .i64 2)).drew.heap[w.heap.size + 1 + 1 + 1]? = some (.cells #[.int .i64 2] 42 (0, 0)) := n3
    have k4 : ((W2.setCell ⟨w.heap.size + 1 + 1, 0, none⟩ (.slice none 0 0)).setCell ⟨w.heap.size + 1 + 1 + 1, 0, none⟩ (.int .i64 2)).drew.heap[w.heap.size + 1 + 1]? = some (.cells #[.slice none 0 0] 40 (0, 0)) := n4
    clear n1 n2 n3 n4
    generalize ((W2.setCell ⟨w.heap.size + 1 + 1, 0, none⟩ (.slice none 0 0)).setCell ⟨w.heap.size + 1 + 1 + 1, 0, none⟩ (.int .i64 2)).drew = W3 at *
    have m3 : W3.cell? ⟨w.heap.size + 1 + 1 + 1, 0, none⟩ = some (.int .i64 2) := by rw [cell_of_row _ _ _ _ _ _ k3]; rfl
    have m4 : W3.cell? ⟨w.heap.size + 1 + 1, 0, none⟩ = some (.slice none 0 0) := by rw [cell_of_row _ _ _ _ _ _ k4]; rfl
    exact ⟨.tuple #[.slice none 0 0, .int .i64 2], by simp [results, Tryz.results45, go_sem, m3, m4], rfl, BB⟩
end
end Go.Proofs.YthhojpplbhnnfaaGreatDoor
namespace Go.Proofs.YthhojpplbhnnfaaGreatDoor
open Go.RowKit
open Go.Deep
open Go.Maps
set_option linter.unusedVariables false
set_option linter.unusedSimpArgs false
theorem eqH14 (x y : List UInt8) (hx : x.length = 32) (hy : y.length = 32) (W : World) : (Op.equalIn 10000 46 (.agg (hc x)) (.agg (hc y))).run Tryz.prog W = .ok (x == y) W :=
  eqC_bytes x y 32 hx hy 46 Tryz.underlying46 9998 W
section
set_option maxRecDepth 10000
set_option maxHeartbeats 4000000
theorem make1 {B w : World} {gt gm n : Nat} {D : DataW Unit} {ve : Value} {x : Tno} {tu be bh : Nat} (h : Tm4 B w gt gm n D ve [x] tu be bh) (hat : D.atKey (.string x.id) (.lit (.int .i64 0)) = .lit (.int .i64 0)) (hh : Maps.has D (.string x.id) = true) (h0 : x.ht = 0) : Calls Tryz.prog 41 #[.pointer (some ⟨gt, 0, none⟩), .agg (hc x.id)] w fun e w' => ∃ g, e = .returned (.tuple #[.slice (some ⟨g, 0, none⟩) 1 1, .int .i64 0]) ∧ w'.heap[g]? = some (.cells (hc x.id) 46 (0, 0)) ∧ Below w.heap.size w w' := by
  have R3 := hide (heap_alloc_last w (.cells (hc x.id) 46))
  have b1 := (Below.refl w.heap.size w).alloc (Nat.le_refl _) (.cells (hc x.id) 46)
  have B1 := hide b1
  have X1 := hide (h.next b1)
  have H0 := hide h
  have CZ := hide (And.intro (show (hc x.id).size = 32 by rw [hc_size, x.hi]) (hc_one x.id))
  have HG : Hid (∀ W, Tm4 B W gt gm n D ve [x] tu be bh → Calls Tryz.prog 16 #[.pointer (some ⟨gt, 0, none⟩), .agg (hc x.id)] W fun e w' => e = .returned (.tuple #[.agg x.pub.toArray, .bool true]) ∧ Below W.heap.size W w') := fun W q => getT_yes q x.id x.hi 0 (by simp) (by simp) hat hh
  have HA : Hid (∀ W, Tm4 B W gt gm n D ve [x] tu be bh → Calls Tryz.prog 21 #[.pointer (some ⟨gt, 0, none⟩), .agg (hc x.id), .int .i64 0] W fun e w' => e = .returned (.tuple #[.agg (hc x.id), .bool true]) ∧ Below W.heap.size W w') := fun W q => atT_of q x.id x.hi 0 (by simp) (by simp) hat hh 0 0 (Nat.zero_le _) (by simp) (fun W2 q2 => anc_here q2 (by simp) 0 (by simp) 0 (by show ((x.ht : Nat) : Int) ≤ 0; omega))
  have HH := hide heights0
  have ZZ := hide (And.intro x.pubA_size x.pubA_all)
  have PH : Hid (∀ (W : World) (g : Nat), W.heap[g]? = some (.cells x.pub.toArray 53 (0, 0)) → W.cell? ⟨g, 100, none⟩ = some (.int .i64 0)) := fun W g e => by
    rw [cell_of_row _ _ _ _ _ _ e]
    have q : x.pub[100]? = some (.int .i64 (x.ht : Int)) := by
      rw [Tno.pub, List.getElem?_append_right (by rw [cellsL_len, x.hi]; omega), cellsL_len, x.hi, List.getElem?_append_right (by rw [x.h.len]; omega), x.h.len]
      rfl
    rw [h0] at q
    simpa using q
  clear b1 hat hh h h0
  generalize x.pub.toArray = PP at *
  generalize hc x.id = C at *
  go_enter Tryz.func41, Tryz.ntmps41
  go_upto_region 1 with ((with_reducible refine at_list ?_); refine wpList_boxA rfl _ rfl C rfl ?_)
  generalize w.alloc (.cells C 46) = W0 at *
  go_upto_region 2 with (first | (go_at_call 16; refine (HG.out _ X1.out).mono ?_; rintro e W1 ⟨rfl, be⟩; have D1 := hide be; clear be) | ((with_reducible refine at_list ?_); first | refine wpList_loadS A25 _ rfl w.heap.size rfl C CZ.out.1 46 R3.out (by rfl) ?_ | refine wpList_allocA ANo rfl rfl ?_ | refine wpList_store_newA ANo rfl _ _ rfl _ rfl PP ZZ.out.1 ZZ.out.2 rfl rfl ?_))
  have b2 := (Below.refl W1.heap.size W1).alloc (Nat.le_refl _) (.cells PP 53)
  have D2 := hide (below_next D1.out b2)
  have c2 := PH.out _ _ (heap_alloc_last W1 (.cells PP 53))
  clear b2 D1 HG PH
  generalize W1.alloc (.cells PP 53) = W2 at *
  generalize W1.heap.size = g6 at *
  go_upto_region 5 with (go_at_call 92; refine (HH.out _).mono ?_; rintro e W3 ⟨v3, rfl, o3, be⟩; have O3 := hide o3; have D3 := hide (below_next D2.out be); clear o3 be)
  obtain ⟨a3, c3, rfl⟩ := O3.out.form
  obtain ⟨g3, f3, rfl⟩ := O3.out.read.base (by simp)
  rw [show ([0] : List Int).length = 1 from rfl] at O3 ⊢
  clear c2 D2
  go_upto_region 6 with ((with_reducible refine at_list ?_); refine wp_mks14 rfl _ _ _ rfl (.int .i64 1) (.int .i64 1) rfl rfl _ _ (mk_h1 _) ?_)
  have b4 := (Below.refl W3.heap.size W3).alloc (Nat.le_refl _) (.cells (hc zeros) 46)
  have D4 := hide (below_next D3.out b4)
  have R4 := hide (heap_alloc_last W3 (.cells (hc zeros) 46))
  have O4 := hide (O3.out.below b4)
  have GE : Hid (W0.heap.size ≤ W3.heap.size) := D3.out.size
  have OZ : Hid (∀ W, OX KIn W (.slice (some ⟨g3, f3, none⟩) 1 c3) [0] → W.cell? ⟨g3, f3, none⟩ = some (.int .i64 0)) := fun W o => by
    have := o.read.range 0 (by simp) 0 _ rfl
    rw [Nat.zero_mul] at this
    exact this
  have NE : Hid (g3 ≠ W3.heap.size) := fun e => by have := O3.out.lt g3 rfl; omega
  clear b4 D3 O3 HH
  generalize W3.alloc (.cells (hc zeros) 46) = W4 at *
  generalize W3.heap.size = gs at *
  go_wp2
  go_loopw [28] (fun i wr => ∃ z, (i = .int .i64 0 ∨ (i = .int .i64 1 ∧ z = C)) ∧ z.size = 32 ∧ Hid (Below w.heap.size w wr ∧ Tm4 B wr gt gm n D ve [x] tu be bh ∧ wr.heap[w.heap.size]? = some (.cells C 46 (0, 0)) ∧ wr.heap[gs]? = some (.cells z 46 (0, 0)) ∧ OX KIn wr (.slice (some ⟨g3, f3, none⟩) 1 c3) [0])) (fun i _ => (1 - intOf i).toNat)
  case atStart => exact ⟨hc zeros, .inl rfl, by rw [hc_size, zeros_len], below_next B1.out D4.out, X1.out.next D4.out, (D4.out.block _ (lt_heap R3.out)).trans R3.out, R4.out, O4.out⟩
  case round =>
    obtain ⟨z, hi, hz, J⟩ := hrel
    rcases hi with rfl | ⟨rfl, rfl⟩
    · have HZz := hide hz
      have c5 := OZ.out _ J.out.2.2.2.2
      clear hz
      go_upto_region 9 with fail
      clear c5
      go_wp2_with (first | (go_at_call 21; refine (HA.out _ J.out.2.1).mono ?_; rintro e W6 ⟨rfl, be⟩; have D6 := hide be; have R6 := hide ((be.block _ (lt_heap J.out.2.2.2.1)).trans J.out.2.2.2.1); clear be) | ((with_reducible refine at_list ?_); first | refine wpList_loadS A25 _ rfl w.heap.size rfl C CZ.out.1 46 J.out.2.2.1 (by rfl) ?_ | refine wpList_storeA A25 rfl _ _ rfl gs C CZ.out.1 CZ.out.2 (by rfl) rfl z HZz.out 46 R6.out ?_))
      go_round
      case rel =>
        have LW : w.heap.size < W0.heap.size := lt_heap R3.out
        exact ⟨C, .inr ⟨by go_num, rfl⟩, CZ.out.1, below_setRow (below_next J.out.1 D6.out) (by have := GE.out; omega) _, (J.out.2.1.next D6.out).put X1.out GE.out _, (setRow_other _ _ _ _ (by have := GE.out; omega)).trans ((D6.out.block _ (lt_heap J.out.2.2.1)).trans J.out.2.2.1), setRow_heap _ _ _ _ _ _ R6.out, (J.out.2.2.2.2.below D6.out).of_block fun q hq => setRow_other _ _ _ _ (by simp only [Value.ownBlock, Option.some.injEq] at hq; rw [← hq]; exact NE.out)⟩
      case measure => simp [intOf]
    · go_wp2
      go_ret2
      exact ⟨gs, rfl, J.out.2.2.2.1, J.out.1⟩
end
end Go.Proofs.YthhojpplbhnnfaaGreatDoor
namespace Go.Proofs.YthhojpplbhnnfaaGreatDoor
open Go.RowKit
open Go.Deep
open Go.Maps
set_option linter.unusedVariables false
set_option linter.unusedSimpArgs false
theorem atG : ((DataW.map []).put (.string (gH.at 1).id) (.lit (.int .i64 0)) : DataW Unit).atKey (.string (gH.at 1).id) (.lit (.int .i64 0)) = .lit (.int .i64 0) := atKey_put_same ⟨_, rfl⟩ (by simp [WideAt.IsKeyLit]) _ _
theorem hasG : Maps.has ((DataW.map []).put (.string (gH.at 1).id) (.lit (.int .i64 0)) : DataW Unit) (.string (gH.at 1).id) = true := has_put_same ⟨_, rfl⟩ (by simp [WideAt.IsKeyLit]) _
section
set_option maxRecDepth 10000
set_option maxHeartbeats 4000000
theorem awake15 (w : World) (hK : Kg w) : Calls Tryz.prog 38 #[] w fun e w' => e = .returned (.bool true) ∧ Below w.heap.size w w' := by
  have HN := hide (newT_any w hK)
  have HG : Hid (∀ W, Kg W → Calls Tryz.prog 47 #[] W fun e w' => ∃ ao cap, e = .returned (.agg (bkA (gH.at 1) (.slice ao 1 cap))) ∧ Below W.heap.size W w') := fun W q => (genesis_any W q).mono (by rintro e w' ⟨ao, cap, y, rfl, _, _, be⟩; exact ⟨ao, cap, rfl, be⟩)
  have HI : Hid (∀ W, Kg W → Calls Tryz.prog 33 #[.agg (gH.at 1).cells.toArray] W fun e w' => e = .returned (.agg (hc (gH.at 1).id)) ∧ Below W.heap.size W w') := fun W q => hid_any (gH.at 1) W q
  have HM : Hid (∀ W gt gm ve, Tm4 w W gt gm 1 ((DataW.map []).put (.string (gH.at 1).id) (.lit (.int .i64 0))) ve [ndG] 1 0 0 → Calls Tryz.prog 41 #[.pointer (some ⟨gt, 0, none⟩), .agg (hc (gH.at 1).id)] W fun e w' => ∃ g, e = .returned (.tuple #[.slice (some ⟨g, 0, none⟩) 1 1, .int .i64 0]) ∧ w'.heap[g]? = some (.cells (hc (gH.at 1).id) 46 (0, 0)) ∧ Below W.heap.size W w') := fun W gt gm ve q => make1 q atG hasG rfl
  have KS : Hid (∀ W, Below w.heap.size w W → Kg W) := fun W b => hK.next b
  have IZ := hide (And.intro (show (hc (gH.at 1).id).size = 32 by rw [hc_size, Hd.id_len]) (hc_one (gH.at 1).id))
  have EI : Hid (∀ W, (Op.equalIn 10000 46 (.agg (hc (gH.at 1).id)) (.agg (hc (gH.at 1).id))).run Tryz.prog W = .ok true W) := fun W => by
    rw [eqH14 _ _ (Hd.id_len _) (Hd.id_len _)]
    simp
  have EG : Hid (Tryz.prog.eqGuardType Tryz.prog.depth 46 = false) := by show _ = _; kernel_rfl
  clear hK
  generalize (DataW.map []).put (.string (gH.at 1).id) (.lit (.int .i64 0)) = DD at *
  generalize gH.at 1 = HH at *
  generalize hc HH.id = ID at *
  go_enter Tryz.func38, Tryz.ntmps38
  go_upto_region 2 with (go_at_call 8; refine HN.out.mono ?_; rintro e W1 ⟨gt, gm, ve, rfl, t1⟩; have T1 := hide t1; clear t1)
  go_upto_region 3 with (first | (go_at_call 47; refine (HG.out _ (KS.out _ T1.out.bel)).mono ?_; rintro e W2 ⟨ao, cap, rfl, be⟩; have D2 := hide be; clear be) | (go_at_call 33; refine (HI.out _ (KS.out _ (T1.out.next D2.out).bel)).mono ?_; rintro e W3 ⟨rfl, be⟩; have D3 := hide (below_next D2.out be); clear be) | ((with_reducible refine at_list ?_); first | refine wpFieldBk14 _ rfl HH (.slice ao 1 cap) rfl (by rfl) ?_ | refine wpList_allocA A25 rfl rfl ?_ | refine wpList_store_newA A25 rfl _ _ rfl _ rfl ID IZ.out.1 IZ.out.2 rfl rfl ?_))
  have b4 := (Below.refl W3.heap.size W3).alloc (Nat.le_refl _) (.cells ID 46)
  have T4 := hide (T1.out.next (below_next D3.out b4))
  have R4 := hide (heap_alloc_last W3 (.cells ID 46))
  clear b4 D2 D3 HN HG HI T1
  generalize W3.alloc (.cells ID 46) = W4 at *
  generalize W3.heap.size = g2 at *
  go_upto_region 4 with (first | (go_at_call 41; refine (HM.out _ _ _ _ T4.out).mono ?_; rintro e W5 ⟨gl, rfl, rl, be⟩; have RL := hide rl; have R5 := hide ((be.block _ (lt_heap R4.out)).trans R4.out); have B5 := hide (T4.out.next be).bel; clear rl be) | ((with_reducible refine at_list ?_); refine wpList_loadS A25 _ rfl g2 rfl ID IZ.out.1 46 R4.out (by rfl) ?_))
  have DV := hide (Below.refl W5.heap.size W5).drew
  refine wp_region_held_drew (S := fun W => Below W5.heap.size W5 W) (by kernel_rfl) DV.out (fun hH => ?_)
  generalize W5.drew = V1 at *
  refine wpAnyH_take (i := 0) (v := (.int .i64 0)) rfl (by kernel_rfl) (by kernel_rfl) (by kernel_rfl) (fun _ _ _ h => h) (yl_move (by rfl) _ (by rfl) _ (by rfl)) hH ?_
  change wpAnyH _ _ _ _ _ _ _ (Act.put _ (some 15) _) _
  simp only [Act.put, List.setIfInBounds_toArray, List.set_cons_zero, List.set_cons_succ]
  refine wpAnyH_take (i := 1) (v := (.bool true)) rfl (by kernel_rfl) (by kernel_rfl) (by kernel_rfl) (fun _ _ _ h => h) (.inl ⟨by rfl, fun W _ => by go_simp⟩) hH ?_
  change wpAnyH _ _ _ _ _ _ _ (Act.put _ (some 16) _) _
  simp only [Act.put, List.setIfInBounds_toArray, List.set_cons_zero, List.set_cons_succ]
  refine wpAnyH_take (i := 2) (v := (.bool true)) rfl (by kernel_rfl) (by kernel_rfl) (by kernel_rfl) (fun _ _ _ h => h) (yl_move (by rfl) _ (by rfl) _ (by rfl)) hH ?_
  change wpAnyH _ _ _ _ _ _ _ (Act.put _ (some 17) _) _
  simp only [Act.put, List.setIfInBounds_toArray, List.set_cons_zero, List.set_cons_succ]
  refine wpAnyH_take (i := 3) (v := (.slice (some ⟨gl, 0, none⟩) 1 1)) rfl (by kernel_rfl) (by kernel_rfl) (by kernel_rfl) (fun _ _ _ h => h) (yl_move (by rfl) _ (by rfl) _ (by rfl)) hH ?_
  change wpAnyH _ _ _ _ _ _ _ (Act.put _ (some 18) _) _
  simp only [Act.put, List.setIfInBounds_toArray, List.set_cons_zero, List.set_cons_succ]
  refine wpAnyH_take (i := 4) (v := (.int .i64 1)) rfl (by kernel_rfl) (by kernel_rfl) (by kernel_rfl) (fun _ _ _ h => h) (.inl ⟨by rfl, fun W _ => by go_simp⟩) hH ?_
  change wpAnyH _ _ _ _ _ _ _ (Act.put _ (some 19) _) _
  simp only [Act.put, List.setIfInBounds_toArray, List.set_cons_zero, List.set_cons_succ]
  refine wpAnyH_take (i := 5) (v := (.bool true)) rfl (by kernel_rfl) (by kernel_rfl) (by kernel_rfl) (fun _ _ _ h => h) (.inl ⟨by rfl, fun W _ => by go_simp⟩) hH ?_
  change wpAnyH _ _ _ _ _ _ _ (Act.put _ (some 20) _) _
  simp only [Act.put, List.setIfInBounds_toArray, List.set_cons_zero, List.set_cons_succ]
  refine wpAnyH_take (i := 6) (v := (.bool true)) rfl (by kernel_rfl) (by kernel_rfl) (by kernel_rfl) (fun _ _ _ h => h) (.inl ⟨by rfl, fun W _ => by go_simp⟩) hH ?_
  change wpAnyH _ _ _ _ _ _ _ (Act.put _ (some 21) _) _
  simp only [Act.put, List.setIfInBounds_toArray, List.set_cons_zero, List.set_cons_succ]
  refine wpAnyH_take (i := 7) (v := (.bool true)) rfl (by kernel_rfl) (by kernel_rfl) (by kernel_rfl) (fun _ _ _ h => h) (yl_move (by rfl) _ (by rfl) _ (by rfl)) hH ?_
  change wpAnyH _ _ _ _ _ _ _ (Act.put _ (some 22) _) _
  simp only [Act.put, List.setIfInBounds_toArray, List.set_cons_zero, List.set_cons_succ]
  refine wpAnyH_take (i := 8) (v := (.slice (some ⟨gl, 0, none⟩) 1 1)) rfl (by kernel_rfl) (by kernel_rfl) (by kernel_rfl) (fun _ _ _ h => h) (yl_move (by rfl) _ (by rfl) _ (by rfl)) hH ?_
  change wpAnyH _ _ _ _ _ _ _ (Act.put _ (some 23) _) _
  simp only [Act.put, List.setIfInBounds_toArray, List.set_cons_zero, List.set_cons_succ]
  refine wpAnyH_take (i := 9) (v := (.pointer (some ⟨gl, 0, none⟩))) rfl (by kernel_rfl) (by kernel_rfl) (by kernel_rfl) (fun _ _ _ h => h) (.inl ⟨by rfl, fun W _ => by go_simp⟩) hH ?_
  change wpAnyH _ _ _ _ _ _ _ (Act.put _ (some 24) _) _
  simp only [Act.put, List.setIfInBounds_toArray, List.set_cons_zero, List.set_cons_succ]
  refine wpAnyH_take (i := 10) (v := (.agg ID)) rfl (by kernel_rfl) (by kernel_rfl) (by kernel_rfl) (fun _ _ _ h => h) (yl_load (by rfl) _ (by rfl) _ ID (by rfl) (fun W hS => ld_row A25 IZ.out.1 ((hS.block _ (lt_heap RL.out)).trans RL.out))) hH ?_
  change wpAnyH _ _ _ _ _ _ _ (Act.put _ (some 25) _) _
  simp only [Act.put, List.setIfInBounds_toArray, List.set_cons_zero, List.set_cons_succ]
  refine wpAnyH_take (i := 11) (v := (.agg ID)) rfl (by kernel_rfl) (by kernel_rfl) (by kernel_rfl) (fun _ _ _ h => h) (yl_load (by rfl) _ (by rfl) _ ID (by rfl) (fun W hS => ld_row A25 IZ.out.1 ((hS.block _ (lt_heap R5.out)).trans R5.out))) hH ?_
  change wpAnyH _ _ _ _ _ _ _ (Act.put _ (some 26) _) _
  simp only [Act.put, List.setIfInBounds_toArray, List.set_cons_zero, List.set_cons_succ]
  refine wpAnyH_take (i := 12) (v := (.bool true)) rfl (by kernel_rfl) (by kernel_rfl) (by kernel_rfl) (fun _ _ _ h => h) (yl_eqlB (by rfl) _ _ _ _ (by rfl) ID ID (by rfl) (by rfl) EG.out true EI.out) hH ?_
  change wpAnyH _ _ _ _ _ _ _ (Act.put _ (some 27) _) _
  simp only [Act.put, List.setIfInBounds_toArray, List.set_cons_zero, List.set_cons_succ]
  refine wpAnyH_take (i := 13) (v := (.bool true)) rfl (by kernel_rfl) (by kernel_rfl) (by kernel_rfl) (fun _ _ _ h => h) (.inl ⟨by rfl, fun W _ => by go_simp⟩) hH ?_
  change wpAnyH _ _ _ _ _ _ _ (Act.put _ (some 28) _) _
  simp only [Act.put, List.setIfInBounds_toArray, List.set_cons_zero, List.set_cons_succ]
  refine wpAnyH_take (i := 14) (v := (.bool true)) rfl (by kernel_rfl) (by kernel_rfl) (by kernel_rfl) (fun _ _ _ h => h) (.inl ⟨by rfl, fun W _ => by go_simp⟩) hH ?_
  change wpAnyH _ _ _ _ _ _ _ (Act.put _ (some 0) _) _
  simp only [Act.put, List.setIfInBounds_toArray, List.set_cons_zero, List.set_cons_succ]
  refine wpAnyH_done (by kernel_rfl) ?_ _
  go_wp2
  go_ret
  exact ⟨rfl, below_next B5.out DV.out⟩
theorem locateNil_walk (w : World) (hK : Kg w) (l : List UInt8) (hl : l.length = 32) : Calls Tryz.prog 7 #[.agg (hc l)] w fun r w' => r = .returned (.bool true) ∧ Below w.heap.size w w' := by
  have R1 := hide (heap_alloc_last w (.cells (hc l) 46))
  have B1 := hide ((Below.refl w.heap.size w).alloc (Nat.le_refl _) (.cells (hc l) 46))
  have KS : Hid (∀ W, Below w.heap.size w W → Kg W) := fun W b => hK.next b
  have CZ := hide (And.intro (show (hc l).size = 32 by rw [hc_size, hl]) (hc_one l))
  have HA : Hid (∀ W, Kg W → Calls Tryz.prog 38 #[] W fun e w' => e = .returned (.bool true) ∧ Below W.heap.size W w') := fun W k => awake15 W k
  have HM := hide (fun W => makeL_nil l hl W)
  have HF := hide (fun v W => findL_nil l hl v W)
  have HH := hide (fun W => headersL_nil l l hl (.slice none 0 0) 1 W)
  have HP := hide (fun W => pathL_nil l l hl hl W)
  have HS := hide (fun f W => missL_nil l l hl hl 1 f W)
  have ZZ := hide (And.intro (show (hc zeros).size = 32 by rw [hc_size, zeros_len]) (hc_one zeros))
  have EB : Hid ((KH.enc ⟨l, hl⟩).toArray = hc l) := rfl
  clear hK
  generalize hX : (⟨l, hl⟩ : Id32) = X at *
  generalize hc l = C at *
  go_enter Tryz.func7, Tryz.ntmps7
  go_upto_region 1 with ((with_reducible refine at_list ?_); refine wpList_boxA rfl _ rfl C rfl ?_)
  generalize w.alloc (.cells C 46) = W0 at *
  go_upto_region 2 with (first | (go_at_call 41; refine (HM.out _).mono ?_; rintro e W1 ⟨rfl, be⟩; have D1 := hide be; clear be) | ((with_reducible refine at_list ?_); refine wpList_loadS A25 _ rfl w.heap.size rfl C CZ.out.1 46 R1.out (by rfl) ?_))
  have R2 := hide ((D1.out.block _ (lt_heap R1.out)).trans R1.out)
  go_upto_region 3 with (first | (go_at_call 42; refine (HF.out _ _).mono ?_; rintro e W2 ⟨rfl, be⟩; have D2 := hide (below_next D1.out (below_next ((Below.refl W1.heap.size W1).alloc (Nat.le_refl _) (.cells (KH.enc X).toArray KH.e)) be)); clear be) | ((with_reducible refine at_list ?_); first | refine wpList_loadS A25 _ rfl w.heap.size rfl C CZ.out.1 46 R2.out (by rfl) ?_ | refine Ek.wpBs1 KH rfl _ rfl X (by rw [EB.out]; rfl) ?_ | refine wpList_allocA A25 rfl rfl ?_ | refine wpList_store_newA A25 rfl _ _ rfl _ rfl (hc zeros) ZZ.out.1 ZZ.out.2 rfl rfl ?_))
  have b3 := (Below.refl W2.heap.size W2).alloc (Nat.le_refl _) (.cells (hc zeros) 46)
  have D3 := hide (below_next D2.out b3)
  have R3 := hide ((D3.out.block _ (lt_heap R1.out)).trans R1.out)
  clear b3 D1 D2 R2 HM HF
  generalize W2.alloc (.cells (hc zeros) 46) = W3 at *
  go_upto_region 4 with (first | (go_at_call 43; refine (HH.out _).mono ?_; rintro e W4 ⟨rfl, be⟩; have D4 := hide (below_next D3.out be); clear be) | ((with_reducible refine at_list ?_); refine wpList_loadS A25 _ rfl w.heap.size rfl C CZ.out.1 46 R3.out (by rfl) ?_))
  have R4 := hide ((D4.out.block _ (lt_heap R1.out)).trans R1.out)
  go_upto_region 5 with (first | (go_at_call 44; refine (HP.out _).mono ?_; rintro e W5 ⟨rfl, be⟩; have D5 := hide (below_next D4.out be); clear be) | ((with_reducible refine at_list ?_); refine wpList_loadS A25 _ rfl w.heap.size rfl C CZ.out.1 46 R4.out (by rfl) ?_))
  have R5 := hide ((D5.out.block _ (lt_heap R1.out)).trans R1.out)
  go_upto_region 6 with (first | (go_at_call 45; refine (HS.out _ _).mono ?_; rintro e W6 ⟨rfl, be⟩; have D6 := hide (below_next D5.out be); clear be) | ((with_reducible refine at_list ?_); refine wpList_loadS A25 _ rfl w.heap.size rfl C CZ.out.1 46 R5.out (by rfl) ?_))
  have B6 := hide (below_next B1.out D6.out)
  clear D3 D4 D5 D6 R3 R4 R5 HH HP HS
  go_wp2_with (go_at_call 38; refine (HA.out _ (KS.out _ B6.out)).mono ?_; rintro e W7 ⟨rfl, be⟩; have B7 := hide (below_next B6.out be); clear be)
  go_ret
  exact ⟨rfl, B7.out⟩
end
end Go.Proofs.YthhojpplbhnnfaaGreatDoor
