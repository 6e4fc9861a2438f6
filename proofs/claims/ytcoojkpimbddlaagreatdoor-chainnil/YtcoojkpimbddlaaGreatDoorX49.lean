/- The calls of a nil chain: their contracts. The law's awake of layer 17: a block is connected; ChainNil's walk. ChainNil's walk. What the listed table gives the walks: K0 .. K63 in their cells; a world that has them. -/
import Derived.Test.YtcoojkpimbddlaaGreatDoorP0
import Derived.Test.YtcoojkpimbddlaaGreatDoorX45
import Derived.Test.YtcoojkpimbddlaaGreatDoorX48
import Derived.Test.YtcoojkpimbddlaaGreatDoorX01
import Derived.ProofKit
import Derived.LaidMore
import Derived.OpenShut
import Derived.Stop.Joined
import Derived.ShutString
import Derived.ChangeOld
import Derived.SizedLaws
import Derived.Lib.SmallJoins
namespace Go.Proofs.YtcoojkpimbddlaaGreatDoor
open Go.RowKit
open Go.Deep
open Go.Maps
set_option linter.unusedVariables false
set_option linter.unusedSimpArgs false
section
set_option maxRecDepth 10000
set_option maxHeartbeats 2000000
theorem header_nil17 (h : Hd) (now : Int) (w : World) : Calls Tryz.prog 30 #[.pointer none, .agg h.cells.toArray, .int .u32 now] w fun e w' => e = .returned (.tuple #[.bool false, .int .i64 1]) ∧ Below w.heap.size w w' := by
  have B1 := hide ((Below.refl w.heap.size w).alloc (Nat.le_refl _) (.cells h.cells.toArray 48))
  generalize h.cells.toArray = C at *
  go_enter Tryz.func30, Tryz.ntmps30
  go_upto_region 1 with ((with_reducible refine at_list ?_); refine wpList_boxA rfl _ rfl C rfl ?_)
  generalize w.alloc (.cells C 48) = W0 at *
  go_wp2
  go_ret2
  exact ⟨rfl, B1.out⟩
theorem load_nil17 (h : Hd) (v : Value) (now : Int) (w : World) : Calls Tryz.prog 42 #[.pointer none, .agg (bkA h v), .int .u32 now] w fun e w' => e = .returned (.int .i64 1) ∧ Below w.heap.size w w' := by
  have B1 := hide ((Below.refl w.heap.size w).alloc (Nat.le_refl _) (.cells (bkA h v) 62))
  generalize bkA h v = C at *
  go_enter Tryz.func42, Tryz.ntmps42
  go_upto_region 1 with ((with_reducible refine at_list ?_); refine wpList_boxA rfl _ rfl C rfl ?_)
  generalize w.alloc (.cells C 62) = W0 at *
  go_wp2
  go_ret
  exact ⟨rfl, B1.out⟩
theorem block_nil17 (h : Hd) (v : Value) (now : Int) (w : World) : Calls Tryz.prog 31 #[.pointer none, .agg (bkA h v), .int .u32 now] w fun e w' => e = .returned (.tuple #[.slice none 0 0, .int .i64 1]) ∧ Below w.heap.size w w' := by
  have R1 := hide (heap_alloc_last w (.cells (bkA h v) 62))
  have B1 := hide ((Below.refl w.heap.size w).alloc (Nat.le_refl _) (.cells (bkA h v) 62))
  have HL := hide (fun W => load_nil17 h v now W)
  have BZ := hide (bkA_size h v)
  generalize bkA h v = C at *
  go_enter Tryz.func31, Tryz.ntmps31
  go_upto_region 1 with ((with_reducible refine at_list ?_); refine wpList_boxA rfl _ rfl C rfl ?_)
  generalize w.alloc (.cells C 62) = W0 at *
  go_wp2_with (first | (go_at_call 42; refine (HL.out _).mono ?_; rintro e W1 ⟨rfl, be⟩; have D1 := hide be; clear be) | ((with_reducible refine at_list ?_); refine wpList_loadS ABk _ rfl w.heap.size rfl C BZ.out 62 R1.out (by rfl) ?_))
  go_ret2
  exact ⟨rfl, below_next B1.out D1.out⟩
theorem tip_nil17 (w : World) : Calls Tryz.prog 32 #[.pointer none] w fun e w' => e = .returned (.tuple #[.agg (hc zeros), .int .i64 0]) ∧ Below w.heap.size w w' := by
  have ZZ := hide (And.intro (show (hc zeros).size = 32 by rw [hc_size, zeros_len]) (hc_one zeros))
  have R3 := hide (heap_alloc_last w (.cells (hc zeros) 46))
  have B1 := hide ((Below.refl w.heap.size w).alloc (Nat.le_refl _) (.cells (hc zeros) 46))
  go_enter Tryz.func32, Tryz.ntmps32
  go_upto_region 1 with ((with_reducible refine at_list ?_); refine wpList_allocA A25 rfl rfl ?_)
  generalize w.alloc (.cells (hc zeros) 46) = W0 at *
  go_wp2_with ((with_reducible refine at_list ?_); first | refine wpList_buildV A25 rfl (by rfl) ?_ | refine wpList_storeA A25 rfl _ _ rfl w.heap.size (hc zeros) ZZ.out.1 ZZ.out.2 rfl rfl (hc zeros) ZZ.out.1 46 R3.out ?_)
  exact bodyPost_ret (v := .tuple #[.agg (hc zeros), .int .i64 0]) (resA2K A25 Tryz.results32 _ _ w.heap.size 46 _ ZZ.out.1 rfl (setRow_heap _ _ _ _ _ _ R3.out) _ rfl) rfl ⟨rfl, below_setRow B1.out (Nat.le_refl _) _⟩
theorem active_nil17 (n : Int) (w : World) : Calls Tryz.prog 34 #[.pointer none, .int .i64 n] w fun e w' => e = .returned (.tuple #[.agg (hc zeros), .bool false]) ∧ Below w.heap.size w w' := by
  have ZZ := hide (And.intro (show (hc zeros).size = 32 by rw [hc_size, zeros_len]) (hc_one zeros))
  have R3 := hide (heap_alloc_last w (.cells (hc zeros) 46))
  have B1 := hide ((Below.refl w.heap.size w).alloc (Nat.le_refl _) (.cells (hc zeros) 46))
  go_enter Tryz.func34, Tryz.ntmps34
  go_upto_region 1 with ((with_reducible refine at_list ?_); refine wpList_allocA A25 rfl rfl ?_)
  generalize w.alloc (.cells (hc zeros) 46) = W0 at *
  go_wp2_with ((with_reducible refine at_list ?_); first | refine wpList_buildV A25 rfl (by rfl) ?_ | refine wpList_storeA A25 rfl _ _ rfl w.heap.size (hc zeros) ZZ.out.1 ZZ.out.2 rfl rfl (hc zeros) ZZ.out.1 46 R3.out ?_)
  exact bodyPost_ret (v := .tuple #[.agg (hc zeros), .bool false]) (resA2K A25 Tryz.results34 _ _ w.heap.size 46 _ ZZ.out.1 rfl (setRow_heap _ _ _ _ _ _ R3.out) _ rfl) rfl ⟨rfl, below_setRow B1.out (Nat.le_refl _) _⟩
theorem body_nil17 (l : List UInt8) (w : World) : Calls Tryz.prog 33 #[.pointer none, .agg (hc l)] w fun e w' => e = .returned (.tuple #[.agg (bkA zHd (.slice none 0 0)), .bool false]) ∧ Below w.heap.size w w' := by
  have s1 : (w.alloc (.cells (hc l) 46)).heap.size = w.heap.size + 1 := by simp
  have R4 := hide (heap_alloc_last (w.alloc (.cells (hc l) 46)) (.cells (bkA zHd (.slice none 0 0)) 62))
  have B1 := hide (((Below.refl w.heap.size w).alloc (Nat.le_refl _) (.cells (hc l) 46)).alloc (by rw [s1]; omega) (.cells (bkA zHd (.slice none 0 0)) 62))
  have BZ := hide (And.intro (bkA_size zHd (.slice none 0 0)) (bkA_all zHd none 0 0))
  rw [s1] at R4
  generalize hc l = C at *
  go_enter Tryz.func33, Tryz.ntmps33
  go_upto_region 1 with ((with_reducible refine at_list ?_); first | refine wpList_boxA rfl _ rfl C rfl ?_ | refine wpList_allocA ABk rfl rfl ?_)
  try rw [s1]
  clear s1
  generalize (w.alloc (.cells C 46)).alloc (.cells (bkA zHd (.slice none 0 0)) 62) = W0 at *
  go_wp2_with ((with_reducible refine at_list ?_); first | refine wpList_buildV ABk rfl (by rfl) ?_ | refine wpList_storeA ABk rfl _ _ rfl (w.heap.size + 1) (bkA zHd (.slice none 0 0)) BZ.out.1 BZ.out.2 rfl rfl (bkA zHd (.slice none 0 0)) BZ.out.1 62 R4.out ?_)
  exact bodyPost_ret (v := .tuple #[.agg (bkA zHd (.slice none 0 0)), .bool false]) (resA2K ABk Tryz.results33 _ _ (w.heap.size + 1) 62 _ BZ.out.1 rfl (setRow_heap _ _ _ _ _ _ R4.out) _ rfl) rfl ⟨rfl, below_setRow B1.out (by omega) _⟩
theorem undo_nil17 (l : List UInt8) (w : World) : Calls Tryz.prog 35 #[.pointer none, .agg (hc l)] w fun e w' => e = .returned (.tuple #[.agg #[.slice none 0 0], .bool false]) ∧ Below w.heap.size w w' := by
  have s1 : (w.alloc (.cells (hc l) 46)).heap.size = w.heap.size + 1 := by simp
  have R4 := hide (heap_alloc_last (w.alloc (.cells (hc l) 46)) (.cells #[.slice none 0 0] 91))
  have B1 := hide (((Below.refl w.heap.size w).alloc (Nat.le_refl _) (.cells (hc l) 46)).alloc (by rw [s1]; omega) (.cells #[.slice none 0 0] 91))
  rw [s1] at R4
  generalize hc l = C at *
  go_enter Tryz.func35, Tryz.ntmps35
  go_upto_region 1 with ((with_reducible refine at_list ?_); first | refine wpList_boxA rfl _ rfl C rfl ?_ | refine wpList_allocA AUn rfl rfl ?_)
  try rw [s1]
  clear s1
  generalize (w.alloc (.cells C 46)).alloc (.cells #[.slice none 0 0] 91) = W0 at *
  go_wp2_with ((with_reducible refine at_list ?_); first | refine wpList_buildV AUn rfl (by rfl) ?_ | refine wpList_storeA AUn rfl _ _ rfl (w.heap.size + 1) #[.slice none 0 0] rfl au17 rfl rfl #[.slice none 0 0] rfl 91 R4.out ?_)
  exact bodyPost_ret (v := .tuple #[.agg #[.slice none 0 0], .bool false]) (resA2K AUn Tryz.results35 _ _ (w.heap.size + 1) 91 _ rfl rfl (setRow_heap _ _ _ _ _ _ R4.out) _ rfl) rfl ⟨rfl, below_setRow B1.out (by omega) _⟩
theorem inval_nil17 (l : List UInt8) (w : World) : Calls Tryz.prog 36 #[.pointer none, .agg (hc l)] w fun e w' => e = .returned (.tuple #[.slice none 0 0, .int .i64 1]) ∧ Below w.heap.size w w' := by
  have B1 := hide ((Below.refl w.heap.size w).alloc (Nat.le_refl _) (.cells (hc l) 46))
  generalize hc l = C at *
  go_enter Tryz.func36, Tryz.ntmps36
  go_upto_region 1 with ((with_reducible refine at_list ?_); refine wpList_boxA rfl _ rfl C rfl ?_)
  generalize w.alloc (.cells C 46) = W0 at *
  go_wp2
  go_ret2
  exact ⟨rfl, B1.out⟩
theorem has_nil17 (l : List UInt8) (w : World) : Calls Tryz.prog 40 #[.pointer none, .agg (hc l)] w fun e w' => e = .returned (.bool false) ∧ Below w.heap.size w w' := by
  have B1 := hide ((Below.refl w.heap.size w).alloc (Nat.le_refl _) (.cells (hc l) 46))
  generalize hc l = C at *
  go_enter Tryz.func40, Tryz.ntmps40
  go_upto_region 1 with ((with_reducible refine at_list ?_); refine wpList_boxA rfl _ rfl C rfl ?_)
  generalize w.alloc (.cells C 46) = W0 at *
  go_wp2
  go_ret
  exact ⟨rfl, B1.out⟩
theorem set_nil17 (l : List UInt8) (v u : Value) (w : World) : Calls Tryz.prog 43 #[.pointer none, .agg (hc l), v, u] w fun e w' => e = .returned (.int .i64 1) ∧ Below w.heap.size w w' := by
  have B1 := hide ((Below.refl w.heap.size w).alloc (Nat.le_refl _) (.cells (hc l) 46))
  generalize hc l = C at *
  go_enter Tryz.func43, Tryz.ntmps43
  go_upto_region 1 with ((with_reducible refine at_list ?_); refine wpList_boxA rfl _ rfl C rfl ?_)
  generalize w.alloc (.cells C 46) = W0 at *
  go_wp2
  go_ret
  exact ⟨rfl, B1.out⟩
theorem tree_nil17 (w : World) : Calls Tryz.prog 38 #[.pointer none] w fun e w' => e = .returned (.pointer none) ∧ w' = w := by
  go_enter Tryz.func38, Tryz.ntmps38
  go_wp2
  go_ret
  exact ⟨rfl, rfl⟩
theorem coins_nil17 (w : World) : Calls Tryz.prog 39 #[.pointer none] w fun e w' => e = .returned (.pointer none) ∧ w' = w := by
  go_enter Tryz.func39, Tryz.ntmps39
  go_wp2
  go_ret
  exact ⟨rfl, rfl⟩
theorem bodies_nil17 (w : World) : Calls Tryz.prog 41 #[.pointer none] w fun e w' => e = .returned (.int .i64 0) ∧ w' = w := by
  go_enter Tryz.func41, Tryz.ntmps41
  go_wp2
  go_ret
  exact ⟨rfl, rfl⟩
theorem activate_nil17 (w : World) : Calls Tryz.prog 44 #[.pointer none] w fun e w' => e = .returned (.slice none 0 0) ∧ w' = w := by
  go_enter Tryz.func44, Tryz.ntmps44
  go_wp2
  go_ret
  exact ⟨rfl, rfl⟩
end
section
set_option maxRecDepth 10000
set_option maxHeartbeats 8000000
theorem awake17 (w : World) (hK : Kg w) : Calls Tryz.prog 37 #[] w fun e w' => e = .returned (.bool true) ∧ Below w.heap.size w w' := by
  have HN := hide (newC_any w hK)
  have HG : Hid (∀ W, Kg W → Calls Tryz.prog 45 #[] W fun e w' => ∃ ao cap, e = .returned (.agg (bkA (gH.at 1) (.slice ao 1 cap))) ∧ Below W.heap.size W w') := fun W q => (genesis_any W q).mono (by rintro e w' ⟨ao, cap, y, rfl, _, _, be⟩; exact ⟨ao, cap, rfl, be⟩)
  have HF := hide (fun W q => fine17 W q)
  have HB := hide (fun (W : World) (gch gt gm : Nat) (ve : Value) (gc bm bc gb gu : Nat) (q : Chw w W gch gt gm 1 mG17 ve [ndG] 1 0 0 gc bm bc 0 0 (gH.at 1).id 0 (.map []) (.map []) boR gb 1 DB17 gu 0 (.map [])) (v : Value) (x : Tq) (hx : x.m = T17) (a b : Nat) (ha : gt < a ∧ gm < a ∧ ∀ g, ve.ownBlock = some g → g < a) (hgb : gb < a) (hgc : ∀ g, S5 gc bm bc g ∨ g = gu → g < a) (hb : b ≤ W.heap.size) (hL : ∀ W' : World, (∀ g, a ≤ g → g < b → W'.heap[g]? = W.heap[g]?) → LQ W' v [x]) => block17 q hK v x hx a b ha hgb hgc hb hL)
  have HT := hide (fun (W : World) (gch gt gm : Nat) (ve : Value) (L : List Tno) (gc bm bc gb gu : Nat) (DC EC : DataW Unit) (R : Value → Option (DataW Unit × List MemPlace)) (DU : DataW Unit) (q : Chw w W gch gt gm 2 m17 ve L 2 1 1 gc bm bc 1 1 (h17.at 2).id 1 DC EC R gb 2 DC17 gu 1 DU) => tip17 q)
  have HI : Hid (∀ W, Kg W → Calls Tryz.prog 46 #[.agg (h17.at 2).cells.toArray] W fun e w' => e = .returned (.agg (hc (h17.at 2).id)) ∧ Below W.heap.size W w') := fun W q => hid_any (h17.at 2) W q
  have KS : Hid (∀ W, Below w.heap.size w W → Kg W) := fun W b => hK.next b
  have BZ := hide (fun ao cap => And.intro (bkA_size (h17.at 2) (.slice ao 1 cap)) (bkA_all (h17.at 2) ao 1 cap))
  have IZ := hide (And.intro (show (hc (h17.at 2).id).size = 32 by rw [hc_size, Hd.id_len]) (hc_one (h17.at 2).id))
  have RH : Hid (∀ (ao : Option Addr) (cap : Nat) (W : World) (g : Nat), W.heap[g]? = some (.cells (bkA (h17.at 2) (.slice ao 1 cap)) 62 (0, 0)) → W.rangeAt g 0 (h17.at 2).cells) := fun ao cap W g e => bkA_head e
  have EI : Hid (∀ W, (Op.equalIn 10000 46 (.agg (hc (h17.at 2).id)) (.agg (hc (h17.at 2).id))).run Tryz.prog W = .ok true W) := fun W => by
    rw [eqH14 _ _ (Hd.id_len _) (Hd.id_len _)]
    simp
  have EG : Hid (Tryz.prog.eqGuardType Tryz.prog.depth 46 = false) := by show _ = _; kernel_rfl
  clear hK
  change Hid (Calls Tryz.prog 101 #[] w fun e w' => ∃ gch gt gm ve gc bm bc gb gu, e = .returned (.pointer (some ⟨gch, 0, none⟩)) ∧ Chw w w' gch gt gm 1 mG17 ve [ndG] 1 0 0 gc bm bc 0 0 (gH.at 1).id 0 (.map []) (.map []) boR gb 1 DB17 gu 0 (.map [])) at HN
  go_enter Tryz.func37, Tryz.ntmps37
  go_upto_region 2 with (go_at_call 101; refine HN.out.mono ?_; rintro e W1 ⟨gch, gt, gm, ve, gc, bm, bc, gb, gu, rfl, x1⟩; have X1 := hide x1; clear x1)
  go_upto_region 3 with (first | (go_at_call 45; refine (HG.out _ (KS.out _ X1.out.bel)).mono ?_; rintro e W2 ⟨ao, cap, rfl, be⟩; have D2 := hide be; have K2 := hide (KS.out _ (below_next X1.out.bel be)); clear be) | (go_at_call 102; refine (HF.out _ K2.out).mono ?_; rintro e W3 ⟨ao3, cap3, y, lo, hi, rfl, lq, ym, be⟩; have LQ3 := hide lq; have YM := hide ym; have D3 := hide (below_next D2.out be); clear be lq ym) | ((with_reducible refine at_list ?_); first | refine wpFieldBk14 _ rfl (gH.at 1) (.slice ao 1 cap) rfl (by rfl) ?_ | refine wpList_allocA ABk rfl rfl ?_ | refine wpList_store_newA ABk rfl _ _ rfl _ rfl (bkA (h17.at 2) (.slice ao3 1 cap3)) (BZ.out ao3 cap3).1 (BZ.out ao3 cap3).2 rfl rfl ?_))
  have b4 := (Below.refl W3.heap.size W3).alloc (Nat.le_refl _) (.cells (bkA (h17.at 2) (.slice ao3 1 cap3)) 62)
  have X4 := hide (X1.out.next (below_next D3.out b4))
  have R4 := hide (heap_alloc_last W3 (.cells (bkA (h17.at 2) (.slice ao3 1 cap3)) 62))
  have AA : Hid ((gt < lo ∧ gm < lo ∧ ∀ g, ve.ownBlock = some g → g < lo) ∧ gb < lo ∧ ∀ g, S5 gc bm bc g ∨ g = gu → g < lo) := by
    have q0 := LQ3.out.1
    have q1 := lt_heap X1.out.t.row
    have q2 := X1.out.t.map.lt
    have q3 := D2.out.size
    have q4 := X1.out.b.lt
    have q5 := X1.out.u.lt
    have q6 := lt_heap X1.out.c.row
    have q7 := X1.out.c.mp.lt
    have q8 := X1.out.c.ct.lt
    refine ⟨⟨by omega, by omega, fun g hg => by have := X1.out.t.own.lt g hg; omega⟩, by omega, ?_⟩
    rintro g ((e | e | e) | e) <;> omega
  have GL : Hid (lo ≤ W3.heap.size) := Nat.le_trans LQ3.out.2.2.1 LQ3.out.2.1
  obtain ⟨NH, hNH⟩ : ∃ NH, NH = (W3.alloc (.cells (bkA (h17.at 2) (.slice ao3 1 cap3)) 62)).heap.size := ⟨_, rfl⟩
  have HH : Hid (NH ≤ (W3.alloc (.cells (bkA (h17.at 2) (.slice ao3 1 cap3)) 62)).heap.size ∧ W3.heap.size < NH) := ⟨Nat.le_of_eq hNH, by rw [hNH]; simp⟩
  have LL : Hid (∀ W' : World, (∀ g, lo ≤ g → g < NH → W'.heap[g]? = (W3.alloc (.cells (bkA (h17.at 2) (.slice ao3 1 cap3)) 62)).heap[g]?) → LQ W' (.slice ao3 1 cap3) [y]) := fun W' ag => LQ3.out.2.2.2 W' (fun g h1 h2 => (ag g h1 (by have := HH.out.2; have := LQ3.out.2.1; omega)).trans (b4.block g (Nat.lt_of_lt_of_le h2 LQ3.out.2.1)))
  have RH4 := hide (fun W g => RH.out ao3 cap3 W g)
  have BZ4 := hide (BZ.out ao3 cap3)
  have HB4 := hide (fun W q => HB.out W gch gt gm ve gc bm bc gb gu q (.slice ao3 1 cap3) y YM.out lo NH AA.out.1 AA.out.2.1 AA.out.2.2)
  clear b4 X1 D2 D3 K2 LQ3 HN HG HF HB RH BZ AA YM hNH
  generalize W3.alloc (.cells (bkA (h17.at 2) (.slice ao3 1 cap3)) 62) = W4 at *
  generalize W3.heap.size = g2 at *
  generalize hBK : bkA (h17.at 2) (.slice ao3 1 cap3) = BK at *
  clear hBK
  go_upto_region 4 with (first | (go_at_call 31; refine (HB4.out _ X4.out HH.out.1 LL.out).mono ?_; rintro e W5 ⟨g5, c5, rfl, ox, ⟨ve5, L5, R5, DC, EC, DU, x5⟩, ag⟩; have OO := hide ox; have X5 := hide x5; have R5b := hide ((ag g2 GL.out HH.out.2).trans R4.out); clear ox x5 ag) | ((with_reducible refine at_list ?_); refine wpList_loadS ABk _ rfl g2 rfl BK BZ4.out.1 62 R4.out (by rfl) ?_))
  clear X4 R4 HB4 HH LL GL
  go_upto_region 5 with (first | (go_at_call 32; refine (HT.out _ _ _ _ _ _ _ _ _ _ _ _ _ _ _ X5.out).mono ?_; rintro e W6 ⟨rfl, be⟩; have D6 := hide be; clear be) | ((with_reducible refine at_list ?_); first | refine wpList_allocA A25 rfl rfl ?_ | refine wpList_store_newA A25 rfl _ _ rfl _ rfl (hc (h17.at 2).id) IZ.out.1 IZ.out.2 rfl rfl ?_))
  have b7 := below_next D6.out ((Below.refl W6.heap.size W6).alloc (Nat.le_refl _) (.cells (hc (h17.at 2).id) 46))
  have X7 := hide (X5.out.next b7)
  have O7 := hide (OO.out.below b7)
  have R7 := hide ((b7.block _ (lt_heap R5b.out)).trans R5b.out)
  have I7 := hide (heap_alloc_last W6 (.cells (hc (h17.at 2).id) 46))
  clear b7 D6 X5 OO R5b HT
  generalize W6.alloc (.cells (hc (h17.at 2).id) 46) = W7 at *
  generalize W6.heap.size = g6 at *
  have SK : Hid (∀ W, Below W7.heap.size W7 W → W.cell? ⟨g5, 0, none⟩ = some (.int .i64 2) ∧ W.heap[g2]? = some (.cells BK 62 (0, 0)) ∧ W.heap[g6]? = some (.cells (hc (h17.at 2).id) 46 (0, 0))) := fun W b => ⟨by
    have r := (O7.out.below b).read.range 0 (by simp) 0 (.int .i64 2) rfl
    exact (by simpa using r), (b.block _ (lt_heap R7.out)).trans R7.out, (b.block _ (lt_heap I7.out)).trans I7.out⟩
  have DV := hide (Below.refl W7.heap.size W7).drew
  have KW : Hid (∀ W, Below W7.heap.size W7 W → Kg W) := fun W b => KS.out W (below_next X7.out.bel b)
  have BW := hide X7.out.bel
  clear X7 O7 R7 I7 KS
  generalize hc (h17.at 2).id = C at *
  generalize hCH : (h17.at 2).cells.toArray = CH at *
  have CH0 := hide hCH
  clear hCH
  refine wp_region_held_drew (S := fun W => Below W7.heap.size W7 W) (by kernel_rfl) DV.out (fun hH => ?_)
  generalize W7.drew = V1 at *
  refine wt (i := 0) (v := (.bool true)) rfl (yl_move (by rfl) _ (by rfl) _ (by rfl)) hH ?_
  change wpAnyH _ _ _ _ _ _ _ (Act.put _ (some 26) _) _
  simp only [Act.put, s0, s1, s2]
  refine wt (i := 1) (v := (.bool true)) rfl (yl_move (by rfl) _ (by rfl) _ (by rfl)) hH ?_
  change wpAnyH _ _ _ _ _ _ _ (Act.put _ (some 27) _) _
  simp only [Act.put, s0, s1, s2]
  refine wt (i := 2) (v := (.int .i64 0)) rfl (yl_move (by rfl) _ (by rfl) _ (by rfl)) hH ?_
  change wpAnyH _ _ _ _ _ _ _ (Act.put _ (some 28) _) _
  simp only [Act.put, s0, s1, s2]
  refine wt (i := 3) (v := (.bool true)) rfl (.inl ⟨by rfl, fun W _ => by go_simp⟩) hH ?_
  change wpAnyH _ _ _ _ _ _ _ (Act.put _ (some 29) _) _
  simp only [Act.put, s0, s1, s2]
  refine wt (i := 4) (v := (.bool true)) rfl (.inl ⟨by rfl, fun W _ => by go_simp⟩) hH ?_
  change wpAnyH _ _ _ _ _ _ _ (Act.put _ (some 30) _) _
  simp only [Act.put, s0, s1, s2]
  refine wt (i := 5) (v := (.bool true)) rfl (yl_move (by rfl) _ (by rfl) _ (by rfl)) hH ?_
  change wpAnyH _ _ _ _ _ _ _ (Act.put _ (some 31) _) _
  simp only [Act.put, s0, s1, s2]
  refine wt (i := 6) (v := (.slice (some ⟨g5, 0, none⟩) 1 c5)) rfl (yl_move (by rfl) _ (by rfl) _ (by rfl)) hH ?_
  change wpAnyH _ _ _ _ _ _ _ (Act.put _ (some 32) _) _
  simp only [Act.put, s0, s1, s2]
  refine wt (i := 7) (v := (.int .i64 1)) rfl (.inl ⟨by rfl, fun W _ => by go_simp⟩) hH ?_
  change wpAnyH _ _ _ _ _ _ _ (Act.put _ (some 33) _) _
  simp only [Act.put, s0, s1, s2]
  refine wt (i := 8) (v := (.bool true)) rfl (.inl ⟨by rfl, fun W _ => by go_simp⟩) hH ?_
  change wpAnyH _ _ _ _ _ _ _ (Act.put _ (some 34) _) _
  simp only [Act.put, s0, s1, s2]
  refine wt (i := 9) (v := (.bool true)) rfl (.inl ⟨by rfl, fun W _ => by go_simp⟩) hH ?_
  change wpAnyH _ _ _ _ _ _ _ (Act.put _ (some 35) _) _
  simp only [Act.put, s0, s1, s2]
  refine wt (i := 10) (v := (.bool true)) rfl (yl_move (by rfl) _ (by rfl) _ (by rfl)) hH ?_
  change wpAnyH _ _ _ _ _ _ _ (Act.put _ (some 36) _) _
  simp only [Act.put, s0, s1, s2]
  refine wt (i := 11) (v := (.slice (some ⟨g5, 0, none⟩) 1 c5)) rfl (yl_move (by rfl) _ (by rfl) _ (by rfl)) hH ?_
  change wpAnyH _ _ _ _ _ _ _ (Act.put _ (some 37) _) _
  simp only [Act.put, s0, s1, s2]
  refine wt (i := 12) (v := (.pointer (some ⟨g5, 0, none⟩))) rfl (.inl ⟨by rfl, fun W _ => by go_simp⟩) hH ?_
  change wpAnyH _ _ _ _ _ _ _ (Act.put _ (some 38) _) _
  simp only [Act.put, s0, s1, s2]
  refine wt (i := 13) (v := (.pointer (some ⟨g5, 0, none⟩))) rfl (.inl ⟨by rfl, fun W _ => by go_simp⟩) hH ?_
  change wpAnyH _ _ _ _ _ _ _ (Act.put _ (some 39) _) _
  simp only [Act.put, s0, s1, s2]
  refine wt (i := 14) (v := (.int .i64 2)) rfl (.inl ⟨by rfl, fun W hS => by have c4 := (SK.out W hS).1; go_simp⟩) hH ?_
  change wpAnyH _ _ _ _ _ _ _ (Act.put _ (some 40) _) _
  simp only [Act.put, s0, s1, s2]
  refine wt (i := 15) (v := (.bool true)) rfl (.inl ⟨by rfl, fun W _ => by go_simp⟩) hH ?_
  change wpAnyH _ _ _ _ _ _ _ (Act.put _ (some 41) _) _
  simp only [Act.put, s0, s1, s2]
  refine wt (i := 16) (v := (.bool true)) rfl (.inl ⟨by rfl, fun W _ => by go_simp⟩) hH ?_
  change wpAnyH _ _ _ _ _ _ _ (Act.put _ (some 42) _) _
  simp only [Act.put, s0, s1, s2]
  refine wt (i := 17) (v := (.bool true)) rfl (yl_move (by rfl) _ (by rfl) _ (by rfl)) hH ?_
  change wpAnyH _ _ _ _ _ _ _ (Act.put _ (some 43) _) _
  simp only [Act.put, s0, s1, s2]
  refine wt (i := 18) (v := (.agg C)) rfl (yl_load (by rfl) _ (by rfl) _ C (by rfl) (fun W hS => ld_row A25 IZ.out.1 (SK.out W hS).2.2)) hH ?_
  change wpAnyH _ _ _ _ _ _ _ (Act.put _ (some 44) _) _
  simp only [Act.put, s0, s1, s2]
  refine wt (i := 19) (v := (.pointer (some ⟨g2, 0, none⟩))) rfl (.inl ⟨by rfl, fun W _ => by go_simp⟩) hH ?_
  change wpAnyH _ _ _ _ _ _ _ (Act.put _ (some 45) _) _
  simp only [Act.put, s0, s1, s2]
  refine wt (i := 20) (v := (.agg CH)) rfl (yl_load (by rfl) _ (by rfl) _ CH (by rfl) (fun W hS => by rw [← CH0.out]; exact ldHd17 (RH4.out _ _ (SK.out W hS).2.1))) hH ?_
  change wpAnyH _ _ _ _ _ _ _ (Act.put _ (some 46) _) _
  simp only [Act.put, s0, s1, s2]
  refine wpAnyH_ready (rs := [21]) (by kernel_rfl) (by simp) (AllReadyH.cons rfl (fun K1 hK1 => ?_) AllReadyH.nil)
  go_simp
  refine (HI.out V1 (KW.out _ DV.out)).mono ?_
  rintro r V2 ⟨rfl, be⟩
  have DV2 := hide (below_next DV.out be)
  clear be
  refine hK1.out _ _ DV2.out (fun hH => ?_)
  clear hK1
  refine wt (i := 22) (v := (.bool true)) rfl (yl_eqlB (by rfl) _ _ _ _ (by rfl) C C (by rfl) (by rfl) EG.out true EI.out) hH ?_
  change wpAnyH _ _ _ _ _ _ _ (Act.put _ (some 48) _) _
  simp only [Act.put, s0, s1, s2]
  refine wt (i := 23) (v := (.bool true)) rfl (.inl ⟨by rfl, fun W _ => by go_simp⟩) hH ?_
  change wpAnyH _ _ _ _ _ _ _ (Act.put _ (some 49) _) _
  simp only [Act.put, s0, s1, s2]
  refine wt (i := 24) (v := (.bool true)) rfl (yl_move (by rfl) _ (by rfl) _ (by rfl)) hH ?_
  change wpAnyH _ _ _ _ _ _ _ (Act.put _ (some 50) _) _
  simp only [Act.put, s0, s1, s2]
  refine wt (i := 25) (v := (.int .i64 1)) rfl (yl_move (by rfl) _ (by rfl) _ (by rfl)) hH ?_
  change wpAnyH _ _ _ _ _ _ _ (Act.put _ (some 51) _) _
  simp only [Act.put, s0, s1, s2]
  refine wt (i := 26) (v := (.bool true)) rfl (.inl ⟨by rfl, fun W _ => by go_simp⟩) hH ?_
  change wpAnyH _ _ _ _ _ _ _ (Act.put _ (some 52) _) _
  simp only [Act.put, s0, s1, s2]
  refine wt (i := 27) (v := (.bool true)) rfl (.inl ⟨by rfl, fun W _ => by go_simp⟩) hH ?_
  change wpAnyH _ _ _ _ _ _ _ (Act.put _ (some 53) _) _
  simp only [Act.put, s0, s1, s2]
  refine wt (i := 28) (v := (.bool true)) rfl (.inl ⟨by rfl, fun W _ => by go_simp⟩) hH ?_
  change wpAnyH _ _ _ _ _ _ _ (Act.put _ (some 0) _) _
  simp only [Act.put, s0, s1, s2]
  refine wpAnyH_done (by kernel_rfl) ?_ _
  go_wp2
  go_ret
  exact ⟨rfl, below_next BW.out DV2.out⟩
end
theorem bld_hb17 (h : Hd) (W : World) : (Instr.build 62 #[(0, .agg h.cells.toArray)]).run Tryz.prog W = .ok (.agg (bkA h (.slice none 0 0))) W := by
  obtain ⟨v, p, r, t, b, o, hp, hr⟩ := h
  obtain ⟨_, _, _, _, _, _, _, _, _, _, _, _, _, _, _, _, _, _, _, _, _, _, _, _, _, _, _, _, _, _, _, _, rfl⟩ := id32' p hp
  obtain ⟨_, _, _, _, _, _, _, _, _, _, _, _, _, _, _, _, _, _, _, _, _, _, _, _, _, _, _, _, _, _, _, _, rfl⟩ := id32' r hr
  kernel_rfl
section
set_option maxRecDepth 10000
set_option maxHeartbeats 16000000
theorem chainNil_walk (w : World) (hK : Kg w) (h : Hd) (l : List UInt8) (hl : l.length = 32) : Calls Tryz.prog 6 #[.agg h.cells.toArray, .agg (hc l)] w fun r w' => r = .returned (.bool true) ∧ Below w.heap.size w w' := by
  have s1 : (w.alloc (.cells h.cells.toArray 48)).heap.size = w.heap.size + 1 := by simp
  have r1 := (Below.heap_alloc _ (.cells (hc l) 46) _ (lt_heap (heap_alloc_last w (.cells h.cells.toArray 48)))).trans (heap_alloc_last w (.cells h.cells.toArray 48))
  have r2 := heap_alloc_last (w.alloc (.cells h.cells.toArray 48)) (.cells (hc l) 46)
  have b1 := ((Below.refl w.heap.size w).alloc (Nat.le_refl _) (.cells h.cells.toArray 48)).alloc (by rw [s1]; omega) (.cells (hc l) 46)
  rw [s1] at r2
  have B1 := hide b1
  have FW : Hid (∀ W, Below ((w.alloc (.cells h.cells.toArray 48)).alloc (.cells (hc l) 46)).heap.size ((w.alloc (.cells h.cells.toArray 48)).alloc (.cells (hc l) 46)) W → Kg W ∧ W.heap[w.heap.size]? = some (.cells h.cells.toArray 48 (0, 0)) ∧ W.heap[w.heap.size + 1]? = some (.cells (hc l) 46 (0, 0))) := fun W b => ⟨hK.next (below_next b1 b), (b.block _ (lt_heap r1)).trans r1, (b.block _ (lt_heap r2)).trans r2⟩
  have CZ := hide (And.intro h.size (show (hc l).size = 32 by rw [hc_size, hl]))
  have HH := hide (fun W => header_nil17 h 4294967295 W)
  have HB := hide (fun W => block_nil17 h (.slice none 0 0) 4294967295 W)
  have HT := hide tip_nil17
  have HBo := hide (fun W => body_nil17 l W)
  have HAc := hide (fun W => active_nil17 0 W)
  have HU := hide (fun W => undo_nil17 l W)
  have HIn := hide (fun W => inval_nil17 l W)
  have HA := hide (fun W q => awake17 W q)
  have HTr := hide tree_nil17
  have HCo := hide coins_nil17
  have HHs := hide (fun W => has_nil17 l W)
  have HBs := hide bodies_nil17
  have HL := hide (fun W => load_nil17 zHd (.slice none 0 0) 4294967295 W)
  have HS := hide (fun W => set_nil17 l (.pointer none) (.map none) W)
  have HAt := hide activate_nil17
  have BB := hide (fun W => bld_hb17 h W)
  have EZ : Hid (∀ W, (Op.equalIn 10000 46 (.agg (hc zeros)) (.agg (hc zeros))).run Tryz.prog W = .ok true W) := fun W => by
    have := eqC_bytes zeros zeros 32 zeros_len zeros_len 46 Tryz.underlying46 9998 W
    rwa [beq_self_eq_true] at this
  have EG : Hid (Tryz.prog.eqGuardType Tryz.prog.depth 46 = false) := by show _ = _; kernel_rfl
  have ZZ := hide (And.intro (show (hc zeros).size = 32 by rw [hc_size, zeros_len]) (hc_one zeros))
  have YZ := hide (And.intro (bkA_size zHd (.slice none 0 0)) (bkA_all zHd none 0 0))
  clear b1 r1 r2 hK
  generalize bkA h (.slice none 0 0) = BK at *
  generalize h.cells.toArray = CX at *
  generalize hc l = C at *
  generalize hYB : bkA zHd (.slice none 0 0) = YB at *
  have HYB := hide hYB
  clear hYB
  go_enter Tryz.func6, Tryz.ntmps6
  go_upto_region 2 with ((with_reducible refine at_list ?_); first | refine wpList_boxA rfl _ rfl CX rfl ?_ | refine wpList_boxA rfl _ rfl C rfl ?_)
  try rw [s1]
  clear s1
  generalize (w.alloc (.cells CX 48)).alloc (.cells C 46) = W0 at *
  have F0 := hide (FW.out _ (Below.refl _ _))
  go_upto_region 3 with (first | (go_at_call 30; refine (HH.out _).mono ?_; rintro e W1 ⟨rfl, be⟩; have D1 := hide be; have F1 := hide (FW.out _ be); clear be) | ((with_reducible refine at_list ?_); refine wpList_loadS AHd _ rfl w.heap.size rfl CX CZ.out.1 48 F0.out.2.1 (by rfl) ?_))
  go_upto_region 4 with (first | (go_at_call 31; refine (HB.out _).mono ?_; rintro e W2 ⟨rfl, be⟩; have D2 := hide (below_next D1.out be); have F2 := hide (FW.out _ (below_next D1.out be)); clear be) | ((with_reducible refine at_list ?_); first | refine wpList_loadS AHd _ rfl w.heap.size rfl CX CZ.out.1 48 F1.out.2.1 (by rfl) ?_ | refine wpList_bldX rfl _ rfl #[(0, .agg CX)] BK (by simp only [List.map_toArray, List.map_cons, List.map_nil]; rfl) BB.out ?_))
  clear F0 F1 D1 HH HB BB
  go_upto_region 5 with (first | (go_at_call 32; refine (HT.out _).mono ?_; rintro e W3 ⟨rfl, be⟩; have D3 := hide (below_next D2.out be); clear be) | ((with_reducible refine at_list ?_); first | refine wpList_allocA A25 rfl rfl ?_ | refine wpList_store_newA A25 rfl _ _ rfl _ rfl (hc zeros) ZZ.out.1 ZZ.out.2 rfl rfl ?_))
  have D4 := hide (below_next D3.out ((Below.refl W3.heap.size W3).alloc (Nat.le_refl _) (.cells (hc zeros) 46)))
  have R4 := hide (heap_alloc_last W3 (.cells (hc zeros) 46))
  have F4 := hide (FW.out _ D4.out)
  clear D2 F2 D3 HT
  generalize W3.alloc (.cells (hc zeros) 46) = W4 at *
  generalize W3.heap.size = g10 at *
  have E4 : Hid (∀ W, Below W4.heap.size W4 W → Kg W ∧ W.heap[w.heap.size]? = some (.cells CX 48 (0, 0)) ∧ W.heap[w.heap.size + 1]? = some (.cells C 46 (0, 0)) ∧ W.heap[g10]? = some (.cells (hc zeros) 46 (0, 0))) := fun W b => by
    have q := FW.out W (below_next D4.out b)
    exact ⟨q.1, q.2.1, q.2.2, (b.block _ (lt_heap R4.out)).trans R4.out⟩
  go_upto_region 6 with (first | (go_at_call 33; refine (HBo.out _).mono ?_; rintro e W5 ⟨rfl, be⟩; have D5 := hide be; clear be) | ((with_reducible refine at_list ?_); first | refine wpList_loadS A25 _ rfl (w.heap.size + 1) rfl C CZ.out.2 46 F4.out.2.2 (by rfl) ?_ | refine wpList_allocA ABk rfl rfl ?_ | refine wpList_store_newA ABk rfl _ _ rfl _ rfl YB YZ.out.1 YZ.out.2 rfl rfl ?_))
  have D6 := hide (below_next D5.out ((Below.refl W5.heap.size W5).alloc (Nat.le_refl _) (.cells YB 62)))
  clear D5 HBo R4 F4
  generalize W5.alloc (.cells YB 62) = W6 at *
  go_upto_region 7 with (first | (go_at_call 34; refine (HAc.out _).mono ?_; rintro e W7 ⟨rfl, be⟩; have D7 := hide (below_next D6.out be); clear be) | ((with_reducible refine at_list ?_); first | refine wpList_allocA A25 rfl rfl ?_ | refine wpList_store_newA A25 rfl _ _ rfl _ rfl (hc zeros) ZZ.out.1 ZZ.out.2 rfl rfl ?_))
  have D8 := hide (below_next D7.out ((Below.refl W7.heap.size W7).alloc (Nat.le_refl _) (.cells (hc zeros) 46)))
  clear D6 D7 HAc
  generalize W7.alloc (.cells (hc zeros) 46) = W8 at *
  have F8 := hide (E4.out _ D8.out)
  go_upto_region 8 with (first | (go_at_call 35; refine (HU.out _).mono ?_; rintro e W9 ⟨rfl, be⟩; have D9 := hide (below_next D8.out be); clear be) | ((with_reducible refine at_list ?_); first | refine wpList_loadS A25 _ rfl (w.heap.size + 1) rfl C CZ.out.2 46 F8.out.2.2.1 (by rfl) ?_ | refine wpList_allocA AUn rfl rfl ?_ | refine wpList_store_newA AUn rfl _ _ rfl _ rfl #[.slice none 0 0] rfl rfl rfl rfl ?_))
  have DA := hide (below_next D9.out ((Below.refl W9.heap.size W9).alloc (Nat.le_refl _) (.cells #[.slice none 0 0] 91)))
  clear D8 F8 D9 HU
  generalize W9.alloc (.cells #[.slice none 0 0] 91) = WA at *
  have FA := hide (E4.out _ DA.out)
  go_upto_region 9 with (first | (go_at_call 36; refine (HIn.out _).mono ?_; rintro e Wb ⟨rfl, be⟩; have DB := hide (below_next DA.out be); have FB := hide (E4.out _ (below_next DA.out be)); clear be) | ((with_reducible refine at_list ?_); refine wpList_loadS A25 _ rfl (w.heap.size + 1) rfl C CZ.out.2 46 FA.out.2.2.1 (by rfl) ?_))
  simp only [List.append]
  go_wp2_with (first | (go_at_call 37; refine (HA.out _ FB.out.1).mono ?_; rintro e Wc ⟨rfl, be⟩; have DC := hide (below_next DB.out be); have FC := hide (E4.out _ (below_next DB.out be)); clear be) | (go_at_call 38; refine (HTr.out _).mono ?_; rintro e Wz ⟨rfl, h9⟩; subst Wz) | (go_at_call 39; refine (HCo.out _).mono ?_; rintro e Wz ⟨rfl, h9⟩; subst Wz) | (go_at_call 41; refine (HBs.out _).mono ?_; rintro e Wz ⟨rfl, h9⟩; subst Wz) | (go_at_call 44; refine (HAt.out _).mono ?_; rintro e Wz ⟨rfl, h9⟩; subst Wz) | (go_at_call 40; refine (HHs.out _).mono ?_; rintro e Wd ⟨rfl, be⟩; have DD := hide (below_next DC.out be); clear be) | (go_at_call 42; refine (HL.out _).mono ?_; rintro e We ⟨rfl, be⟩; have DE := hide (below_next DD.out be); have FE := hide (E4.out _ (below_next DD.out be)); clear be) | (go_at_call 43; refine (HS.out _).mono ?_; rintro e Wf ⟨rfl, be⟩; have DF := hide (below_next DE.out be); clear be) | ((with_reducible refine at_list ?_); first | refine wpList_loadS A25 _ rfl (w.heap.size + 1) rfl C CZ.out.2 46 FE.out.2.2.1 (by rfl) ?_ | refine wpList_loadS A25 _ rfl (w.heap.size + 1) rfl C CZ.out.2 46 FC.out.2.2.1 (by rfl) ?_ | refine wpList_loadS A25 _ rfl (w.heap.size + 1) rfl C CZ.out.2 46 FA.out.2.2.1 (by rfl) ?_ | refine wpList_loadS A25 _ rfl g10 rfl (hc zeros) ZZ.out.1 46 FC.out.2.2.2 (by rfl) ?_ | refine wpList_buildV A25 rfl (by rfl) ?_ | (refine wpList_buildV ABk rfl (by rfl) ?_; rw [HYB.out]) | refine wpList_eql 46 _ _ _ rfl (hc zeros) (hc zeros) rfl rfl (by rfl) EG.out true EZ.out ?_))
  go_ret
  exact ⟨rfl, below_next B1.out (below_next D4.out DF.out)⟩
end
end Go.Proofs.YtcoojkpimbddlaaGreatDoor
namespace Go.Proofs.YtcoojkpimbddlaaGreatDoor
open Go.ChangeShapes Go.WideShapes Go.ChangeAt Go.RowKit Go.Joins
set_option maxRecDepth 10000
theorem own : ownKnob Tryz.prog.godebug = none := by kernel_rfl
theorem laidOut : laidOutB Tryz.prog = true := by kernel_rfl
theorem gRounds : Tryz.prog.globalNamed "bedrock/sha.rounds" = some 0 := by kernel_rfl
theorem tRounds : (Tryz.prog.globals[0]?).map (·.type) = some 360 := by kernel_rfl
theorem cells5 : Tryz.prog.cellsOf 5 = 1 := by kernel_rfl
theorem cells29 : Tryz.prog.cellsOf 31 = 1 := by kernel_rfl
theorem cells66 : Tryz.prog.cellsOf 360 = 64 := by kernel_rfl
abbrev laid1 : List (String × DataW Unit) := [("bedrock/sha.rounds", Rows.laid_bedrock_sha_rounds)]
theorem rounds_eq : (Rows.laid_bedrock_sha_rounds : DataW Unit) = .agg (kL.map fun x => .lit (.int .u32 (x.toNat : Int))) := by kernel_rfl
set_option maxRecDepth 100000 in
theorem door_met (os : Os) (args : Array Value) : laidMetH Tryz.prog laid1 ((World.doorLaid Tryz.prog 400 os).forCall (fun _ _ => 0) ⟨#[], args, []⟩).memory :=
  laidMetH_of_parts3 (fuel := 8) (laidMet_of_run' 8 (by kernel_rfl) (by kernel_rfl)) (by kernel_rfl) (by kernel_rfl)
theorem of_laid {W : World} (h : laidMetH Tryz.prog laid1 W) : Kg W := by
  rw [MakeChecks.laidMetH_plain _ _ _ (by kernel_rfl)] at h
  obtain ⟨ps, ⟨g0, t0, cs0, f0, p0, q0, hg0, ht0, hv0, hd0, _, _⟩, _, _⟩ := h
  obtain rfl := Option.some.inj (gRounds.symm.trans hg0)
  obtain rfl := Option.some.inj (tRounds.symm.trans ht0)
  rw [rounds_eq] at hd0
  obtain ⟨xs, m1, rfl, hx1, hlen, hn, hel⟩ := DataW.trod_array Tryz.underlying360 hd0
  rw [cells66] at hlen
  rw [cells29] at hel
  simp only [Prod.mk.injEq, DataW.agg.injEq] at hx1
  intro j hj
  have hxj : xs[j]? = some (xs[j]'(by omega)) := List.getElem?_eq_getElem (by omega)
  have e := hel j hj
  rw [hxj, Nat.mul_one, List.drop_eq_getElem_cons (by omega)] at e
  simp only [List.take_succ_cons, List.take_zero] at e
  obtain ⟨a, ea, e2, _⟩ := DataW.trod_int Tryz.underlying31 e
  simp only [List.cons.injEq, and_true] at ea
  have h1 := congrArg (fun l : List (DataW Unit) => l[j]?) hx1.1
  simp only [List.getElem?_map, hxj, Option.map_some] at h1
  have hk : kL[j]? = some (kk j) := by
    rw [kk, List.getD_eq_getElem?_getD, List.getElem?_eq_getElem (by rw [kL_len]; exact hj)]
    rfl
  rw [hk, e2] at h1
  simp only [Option.map_some, Option.some.injEq, DataW.lit.injEq, Lit.int.injEq, true_and] at h1
  have hc := World.var?_cell hg0 hv0 j
  rw [hc, ← Array.getElem?_toList, List.getElem?_eq_getElem (by omega), ea, h1]
def byteOf : Value → UInt8
  | .int _ n => UInt8.ofNat n.toNat
  | _ => 0
theorem open_bytes {H : Type} {enc : TypeId × Value → H} {W : World} {base n : Nat} {t : TypeId} {v : Value} {d : DataW H} {p : List MemPlace} (hu : Tryz.prog.underlying t = some (.array n 5)) (hcs : Tryz.prog.cellsOf t = n)
    (hv : Value.okWide Tryz.prog W .any base t v) (h : DataW.Trod enc Tryz.prog W 0 (fun _ => true) true t v d p) : ∃ l : List UInt8, l.length = n ∧ v = .agg (hc l) := by
  simp only [Value.okWide, hu] at hv
  obtain ⟨cs, rfl, _, _⟩ := hv
  obtain ⟨fuel, hf⟩ := h
  obtain ⟨xs, m, rfl, hx, hlen, hxl, each⟩ := DataW.trod_array hu hf
  rw [hcs] at hlen
  have hsz : cs.size = n := by simpa [Value.cells] using hlen
  refine ⟨cs.toList.map byteOf, by simpa using hsz, ?_⟩
  have : cs = hc (cs.toList.map byteOf) := by
    apply Array.ext
    · rw [hc_size]; simp
    · intro i h1 h2
      have e := each i (by omega)
      rw [cells5, Nat.mul_one] at e
      have hxi : xs[i]? = some (xs[i]'(by omega)) := List.getElem?_eq_getElem (by omega)
      rw [hxi] at e
      obtain ⟨a, ea, _, wa⟩ := DataW.trod_int Tryz.underlying5 e
      have hab : 0 ≤ a ∧ a ≤ 255 := by simpa [Lit.wf, IntKind.min, IntKind.max, IntKind.signed, IntKind.bits] using wa
      have hc1 : (Value.agg cs).cells.toList.drop i = cs.toList.drop i := by simp [Value.cells]
      rw [hc1, List.drop_eq_getElem_cons (by simpa using h1)] at ea
      simp only [List.take_succ_cons, List.take_zero, List.cons.injEq, and_true] at ea
      have ei : cs[i] = Value.int .u8 a := by simpa using ea
      have e2 : (cs.toList.map byteOf)[i]? = some (UInt8.ofNat a.toNat) := by
        rw [List.getElem?_map, List.getElem?_eq_getElem (by simpa using h1)]
        simp [ei, byteOf]
      have e3 : (hc (cs.toList.map byteOf))[i]? = some (.int .u8 ((UInt8.ofNat a.toNat).toNat : Int)) := by
        rw [hc, List.getElem?_toArray, cellsL, List.getElem?_map, e2]; rfl
      rw [Array.getElem?_eq_getElem h2] at e3
      rw [ei, Option.some.inj e3, UInt8.toNat_ofNat']
      exact congrArg (Value.int .u8) (by omega)
  rw [← this]
end Go.Proofs.YtcoojkpimbddlaaGreatDoor
