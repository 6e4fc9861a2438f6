/- A chain: the block of the law's awake is taken: Load: its contract. -/
import Derived.Test.YtcoojkpimbddlaaGreatDoorP0
import Derived.Test.YtcoojkpimbddlaaGreatDoorX41
import Derived.Test.YtcoojkpimbddlaaGreatDoorX42
import Derived.Test.YtcoojkpimbddlaaGreatDoorX43
namespace Go.Proofs.YtcoojkpimbddlaaGreatDoor
open Go.RowKit
open Go.Deep
open Go.Maps
set_option linter.unusedVariables false
set_option linter.unusedSimpArgs false
def DB17 : DataW Unit := (DataW.map []).put (.string (gH.at 1).id) (.lit (.int .i64 1))
def DC17 : DataW Unit := DB17.put (.string (h17.at 2).id) (.lit (.int .i64 2))
theorem pub17_bad (x : Tno) {W : World} {g : Nat} (e : W.heap[g]? = some (.cells x.pub.toArray 53 (0, 0))) : W.cell? ⟨g, 108, none⟩ = some (.bool x.bad) := by
  rw [cell_of_row _ _ _ _ _ _ e]
  have q : x.pub[108]? = some (.bool x.bad) := by
    rw [Tno.pub, List.getElem?_append_right (by rw [cellsL_len, x.hi]; omega), cellsL_len, x.hi, List.getElem?_append_right (by rw [x.h.len]; omega), x.h.len, List.getElem?_append_right (by show 2 ≤ _; omega), List.getElem?_append_right (by rw [wn_len]; show 4 ≤ 108 - 32 - 68 - 2; omega), wn_len]
    rfl
  simpa using q
section
set_option maxRecDepth 10000
set_option maxHeartbeats 8000000
theorem load17 {A w : World} {gch gt gm : Nat} {ve : Value} {gc bm bc gb gu : Nat} (h : Chw A w gch gt gm 1 mG17 ve [ndG] 1 0 0 gc bm bc 0 0 (gH.at 1).id 0 (.map []) (.map []) boR gb 1 DB17 gu 0 (.map [])) (hK : Kg A) (v : Value) (x : Tq) (hx : x.m = T17) (a b : Nat) (ha : gt < a ∧ gm < a ∧ ∀ g, ve.ownBlock = some g → g < a) (hgb : gb < a) (hb : b ≤ w.heap.size) (hL : ∀ W' : World, (∀ g, a ≤ g → g < b → W'.heap[g]? = w.heap[g]?) → LQ W' v [x]) :
    Calls Tryz.prog 42 #[.pointer (some ⟨gch, 0, none⟩), .agg (bkA (h17.at 2) v), .int .u32 4294967295] w fun e w' => e = .returned (.int .i64 0) ∧ ∃ ve' L' R ao cap y, Chw A w' gch gt gm 2 m17 ve' L' 2 1 1 gc bm bc 0 0 (gH.at 1).id 0 (.map []) (.map []) R gb 2 DC17 gu 0 (.map []) ∧ SmT L17 L' ∧ R (.agg (bkA zHd (.slice none 0 0))) = some (.lit (.int .i64 0), []) ∧ (∀ u ps, R u = some (.lit (.int .i64 2), ps) → u = .agg (bkA (h17.at 2) (.slice ao 1 cap))) ∧ (LQ w' (.slice ao 1 cap) [y] ∧ y.m = T17) ∧ ∀ g, a ≤ g → g < b → w'.heap[g]? = w.heap[g]? := by
  obtain ⟨av, cv, rfl⟩ := (hL w (fun _ _ _ => rfl)).l.form
  rw [show ([x] : List Tq).length = 1 from rfl] at *
  have b1 := (Below.refl w.heap.size w).alloc (Nat.le_refl _) (.cells (bkA (h17.at 2) (.slice av 1 cv)) 62)
  have R4 := hide (heap_alloc_last w (.cells (bkA (h17.at 2) (.slice av 1 cv)) 62))
  have X1 := hide (h.next b1)
  have NS1 : Hid (∀ g, w.heap.size ≤ g → ¬ S4 gt gm ve g) := fun g hg e => by
    have q1 := lt_heap h.t.row
    have q2 := h.t.map.lt
    rcases e with e | e | e
    · omega
    · omega
    · have := h.t.own.lt g e; omega
  have AGn : Hid (∀ W W' : World, w.heap.size ≤ W.heap.size → Below W.heap.size W W' → (∀ g, a ≤ g → g < b → W.heap[g]? = w.heap[g]?) → ∀ g, a ≤ g → g < b → W'.heap[g]? = w.heap[g]?) := fun W W' hs bw q g h1 h2 => (bw.block g (by omega)).trans (q g h1 h2)
  have AGf : Hid (∀ (W W' : World) (ve' : Value), w.heap.size ≤ W.heap.size → (∀ g, ve'.ownBlock = some g → ve.ownBlock = some g ∨ w.heap.size ≤ g) → Frt (S4 gt gm ve') W W' → (∀ g, a ≤ g → g < b → W.heap[g]? = w.heap[g]?) → ∀ g, a ≤ g → g < b → W'.heap[g]? = w.heap[g]?) := fun W W' ve' hs ho f q g h1 h2 => (f.block g (by omega) (by
    rintro (e | e | e)
    · have := ha.1; omega
    · have := ha.2.1; omega
    · rcases ho g e with e | e
      · have := ha.2.2 g e; omega
      · omega)).trans (q g h1 h2)
  have AG1 := hide (AGn.out w _ (Nat.le_refl _) b1 (fun _ _ _ => rfl))
  have HLQ := hide hL
  have SZ1 := hide b1.size
  have KA : Hid (∀ W, Below A.heap.size A W → Kg W) := fun W q => hK.next q
  have BZ := hide (And.intro (bkA_size (h17.at 2) (.slice av 1 cv)) (bkA_all (h17.at 2) av 1 cv))
  have IZ := hide (And.intro (show (hc (h17.at 2).id).size = 32 by rw [hc_size, Hd.id_len]) (hc_one (h17.at 2).id))
  have RH : Hid (∀ (W : World) (g : Nat), W.heap[g]? = some (.cells (bkA (h17.at 2) (.slice av 1 cv)) 62 (0, 0)) → W.rangeAt g 0 (h17.at 2).cells) := fun W g e => bkA_head e
  have HWh : Hid (∀ W, LQ W (.slice av 1 cv) [x] → Kg W → Calls Tryz.prog 103 #[.agg (bkA (h17.at 2) (.slice av 1 cv))] W fun e w' => e = .returned (.bool true) ∧ Below W.heap.size W w') := fun W l q => by
    have := whole_any (h17.at 2) (.slice av 1 cv) [x] W l (by simp) q
    rw [whB17 x hx] at this
    exact this
  have HID : Hid (∀ W, Kg W → Calls Tryz.prog 46 #[.agg (h17.at 2).cells.toArray] W fun e w' => e = .returned (.agg (hc (h17.at 2).id)) ∧ Below W.heap.size W w') := fun W q => hid_any (h17.at 2) W q
  have HHs : Hid (∀ W, Chw A W gch gt gm 1 mG17 ve [ndG] 1 0 0 gc bm bc 0 0 (gH.at 1).id 0 (.map []) (.map []) boR gb 1 DB17 gu 0 (.map []) → Calls Tryz.prog 40 #[.pointer (some ⟨gch, 0, none⟩), .agg (hc (h17.at 2).id)] W fun e w' => e = .returned (.bool false) ∧ Below W.heap.size W w') := fun W q => has17_no q _ (Hd.id_len _) ((has_put_other key17 _).trans rfl)
  have HAd : Hid (∀ W, Tm4 A W gt gm 1 mG17 ve [ndG] 1 0 0 → Kg W → Calls Tryz.prog 53 #[.pointer (some ⟨gt, 0, none⟩), .agg (h17.at 2).cells.toArray, .int .u32 4294967295] W fun e w' => e = .returned (.tuple #[.bool true, .int .i64 0]) ∧ ∃ v, Tm4 A w' gt gm 2 m17 v L17 1 0 1 ∧ Frt (S4 gt gm ve) W w' ∧ (∀ g, v.ownBlock = some g → ve.ownBlock = some g ∨ W.heap.size ≤ g)) := fun W q k => add_17 q k
  have HGt : Hid (∀ W ve', Tm4 A W gt gm 2 m17 ve' L17 1 0 1 → Calls Tryz.prog 15 #[.pointer (some ⟨gt, 0, none⟩), .agg (hc (h17.at 2).id)] W fun e w' => e = .returned (.tuple #[.agg n17.pub.toArray, .bool true]) ∧ Below W.heap.size W w') := fun W ve' q => getT_yes q (h17.at 2).id (Hd.id_len _) 1 (by show 1 < 2; omega) (by show 2 ≤ _; omega) m17_at m17_has
  have PB : Hid (∀ (W : World) (g : Nat), W.heap[g]? = some (.cells n17.pub.toArray 53 (0, 0)) → W.cell? ⟨g, 108, none⟩ = some (.bool false)) := fun W g e => pub17_bad n17 e
  have PZ := hide (And.intro n17.pubA_size n17.pubA_all)
  have HCk : Hid (∀ W, LQ W (.slice av 1 cv) [x] → Kg W → Calls Tryz.prog 23 #[.agg (bkA (h17.at 2) (.slice av 1 cv))] W fun e w' => e = .returned (.int .i64 0) ∧ Below W.heap.size W w') := fun W l q => checkV_one (h17.at 2) (.slice av 1 cv) x W l (ok17 x hx).s.z (ok17 x hx).s.r (ok17 x hx).s.m (ok17 x hx).s.b (ok17 x hx).s.c q
  have HBd := hide (fun W ve' (q : Tm4 A W gt gm 2 m17 ve' L17 1 0 1) => body17 q)
  have HCp := hide (fun W (l : LQ W (.slice av 1 cv) [x]) => copyB_one (h17.at 2) (.slice av 1 cv) x W l)
  have MP : Hid (∀ (W : World) (R : Value → Option (DataW Unit × List MemPlace)) (ao : Option Addr) (cap : Nat), W.ownsMap Tryz.prog 46 boR gb 1 DB17 → R (.agg (bkA (h17.at 2) (.slice ao 1 cap))) = some (.lit (.int .i64 2), []) → (∀ v z, boR v = some z → R v = some z) → ∃ W', (Instr.mapUpdate 205 (.map (some gb)) (.agg (hc (h17.at 2).id)) (.agg (bkA (h17.at 2) (.slice ao 1 cap)))).run Tryz.prog W = .ok () W' ∧ W'.ownsMap Tryz.prog 46 R gb 2 DC17 ∧ W.grownBy W' (some gb)) := fun W R ao cap q r1 r2 => by
    obtain ⟨W', hr, ho, hg⟩ := (own_R q r2).store (val := .agg (bkA (h17.at 2) (.slice ao 1 cap))) (d := .lit (.int .i64 2)) (ps := []) lawH14 Tryz.underlying205 (by unfold maxLen; omega) (keyH14 _ (Hd.id_len _)) r1
    exact ⟨W', hr, ho, hg.grown⟩
  have HBR := hide (fun ao cap => boR_one (h17.at 2) (.slice ao 1 cap) rfl)
  have HXM := hide hx
  clear b1 h hK hL hx
  generalize (h17.at 2).id = HI at *
  generalize hHI : hc HI = C at *
  clear hHI
  generalize hBK : bkA (h17.at 2) (.slice av 1 cv) = BK at *
  clear hBK
  generalize hHD : (h17.at 2).cells.toArray = CH at *
  have CH0 := hide hHD
  clear hHD
  go_enter Tryz.func42, Tryz.ntmps42
  go_upto_region 1 with ((with_reducible refine at_list ?_); refine wpList_boxA rfl _ rfl BK rfl ?_)
  generalize w.alloc (.cells BK 62) = W0 at *
  go_upto_region 5 with (first | (go_at_call 103; refine (HWh.out _ (HLQ.out _ AG1.out) (KA.out _ X1.out.bel)).mono ?_; rintro e W1 ⟨rfl, be⟩; have D1 := hide be; clear be) | ((with_reducible refine at_list ?_); refine wpList_loadS ABk _ rfl w.heap.size rfl BK BZ.out.1 62 R4.out (by rfl) ?_))
  have X2 := hide (X1.out.next D1.out)
  have R4b := hide ((D1.out.block _ (lt_heap R4.out)).trans R4.out)
  have AG2 := hide (AGn.out _ _ SZ1.out D1.out AG1.out)
  have SZ2 := hide (Nat.le_trans SZ1.out D1.out.size)
  clear X1 R4 AG1 SZ1 D1
  go_upto_region 6 with (first | (go_at_call 46; refine (HID.out _ (KA.out _ X2.out.bel)).mono ?_; rintro e W2 ⟨rfl, be⟩; have D2 := hide be; clear be) | ((with_reducible refine at_list ?_); first | (refine wpLoadHd _ rfl w.heap.size 0 rfl (h17.at 2) (RH.out _ _ R4b.out) (by rfl) ?_; rw [CH0.out]) | refine wpList_allocA A25 rfl rfl ?_ | refine wpList_store_newA A25 rfl _ _ rfl _ rfl C IZ.out.1 IZ.out.2 rfl rfl ?_))
  have b3 := below_next D2.out ((Below.refl W2.heap.size W2).alloc (Nat.le_refl _) (.cells C 46))
  have X3 := hide (X2.out.next b3)
  have R4c := hide ((b3.block _ (lt_heap R4b.out)).trans R4b.out)
  have R7 := hide (heap_alloc_last W2 (.cells C 46))
  have AG3 := hide (AGn.out _ _ SZ2.out b3 AG2.out)
  have SZ3 := hide (Nat.le_trans SZ2.out b3.size)
  have G7 : Hid (w.heap.size ≤ W2.heap.size) := Nat.le_trans SZ2.out D2.out.size
  clear X2 R4b AG2 SZ2 D2 b3
  generalize W2.alloc (.cells C 46) = W3 at *
  generalize W2.heap.size = g7 at *
  go_upto_region 8 with (first | (go_at_call 40; refine (HHs.out _ X3.out).mono ?_; rintro e W4 ⟨rfl, be⟩; have D4 := hide be; clear be) | ((with_reducible refine at_list ?_); refine wpList_loadS A25 _ rfl g7 rfl C IZ.out.1 46 R7.out (by rfl) ?_))
  have b4 := below_next D4.out (Below.refl W4.heap.size W4).drew
  have X4 := hide (X3.out.next b4)
  have R4d := hide ((b4.block _ (lt_heap R4c.out)).trans R4c.out)
  have R7b := hide ((b4.block _ (lt_heap R7.out)).trans R7.out)
  have AG4 := hide (AGn.out _ _ SZ3.out b4 AG3.out)
  have SZ4 := hide (Nat.le_trans SZ3.out b4.size)
  clear X3 R4c R7 AG3 SZ3 D4 b4
  refine wp_region_held_drew (S := fun W => W.cell? ⟨gch, 0, none⟩ = some (.pointer (some ⟨gt, 0, none⟩)) ∧ W.heap[w.heap.size]? = some (.cells BK 62 (0, 0))) (by kernel_rfl) ⟨X4.out.cells.1, R4d.out⟩ (fun hH => ?_)
  generalize W4.drew = V4 at *
  refine wt (i := 0) (v := (.pointer (some ⟨gch, 0, none⟩))) rfl (yl_move (by rfl) _ (by rfl) _ (by rfl)) hH ?_
  change wpAnyH _ _ _ _ _ _ _ (Act.put _ (some 25) _) _
  simp only [Act.put, s0, s1, s2]
  refine wt (i := 1) (v := (.pointer (some ⟨gch, 0, none⟩))) rfl (.inl ⟨by rfl, fun W _ => by go_simp⟩) hH ?_
  change wpAnyH _ _ _ _ _ _ _ (Act.put _ (some 26) _) _
  simp only [Act.put, s0, s1, s2]
  refine wt (i := 2) (v := (.pointer (some ⟨gch, 0, none⟩))) rfl (.inl ⟨by rfl, fun W _ => by go_simp⟩) hH ?_
  change wpAnyH _ _ _ _ _ _ _ (Act.put _ (some 27) _) _
  simp only [Act.put, s0, s1, s2]
  refine wt (i := 3) (v := (.pointer (some ⟨gt, 0, none⟩))) rfl (.inl ⟨by rfl, fun W hS => by have c4 := hS.1; go_simp⟩) hH ?_
  change wpAnyH _ _ _ _ _ _ _ (Act.put _ (some 28) _) _
  simp only [Act.put, s0, s1, s2]
  refine wt (i := 4) (v := (.pointer (some ⟨w.heap.size, 0, none⟩))) rfl (.inl ⟨by rfl, fun W _ => by go_simp⟩) hH ?_
  change wpAnyH _ _ _ _ _ _ _ (Act.put _ (some 29) _) _
  simp only [Act.put, s0, s1, s2]
  refine wt (i := 5) (v := (.agg CH)) rfl (yl_load (by rfl) _ (by rfl) _ CH (by rfl) (fun W hS => by rw [← CH0.out]; exact ldHd17 (RH.out _ _ hS.2))) hH ?_
  change wpAnyH _ _ _ _ _ _ _ (Act.put _ (some 30) _) _
  simp only [Act.put, s0, s1, s2]
  refine wt (i := 6) (v := (.int .u32 4294967295)) rfl (yl_move (by rfl) _ (by rfl) _ (by rfl)) hH ?_
  change wpAnyH _ _ _ _ _ _ _ (Act.put _ (some 31) _) _
  simp only [Act.put, s0, s1, s2]
  refine wpAnyH_ready (rs := [7]) (by kernel_rfl) (by simp) (AllReadyH.cons rfl (fun K1 hK1 => ?_) AllReadyH.nil)
  go_simp
  refine (HAd.out V4 X4.out.t (KA.out _ X4.out.bel)).mono ?_
  rintro r V5 ⟨rfl, ve', t5, f5, o5⟩
  have X5 := hide (X4.out.tree t5 f5)
  have R4e := hide ((f5.block _ (lt_heap R4d.out) (NS1.out _ (Nat.le_refl _))).trans R4d.out)
  have R7c := hide ((f5.block _ (lt_heap R7b.out) (NS1.out _ G7.out)).trans R7b.out)
  have AG5 := hide (AGf.out _ _ ve SZ4.out (fun g e => .inl e) f5 AG4.out)
  have SZ5 := hide (Nat.le_trans SZ4.out f5.size)
  have OW := hide (fun g e => (o5 g e).imp id (Nat.le_trans SZ4.out))
  have NS2 : Hid (∀ g, w.heap.size ≤ g → g < V4.heap.size → ¬ S4 gt gm ve' g) := fun g h1 h2 e => by
    rcases e with e | e | e
    · exact NS1.out g h1 (.inl e)
    · exact NS1.out g h1 (.inr (.inl e))
    · rcases o5 g e with q | q
      · exact NS1.out g h1 (.inr (.inr q))
      · omega
  have L4 : Hid (w.heap.size < V4.heap.size ∧ g7 < V4.heap.size) := ⟨lt_heap R4d.out, lt_heap R7b.out⟩
  refine hK1.out _ _ ⟨X5.out.cells.1, R4e.out⟩ (fun hH => ?_)
  clear hK1 t5 f5 o5 X4 R4d R7b AG4 SZ4
  refine wt (i := 8) (v := (.tuple #[.bool true, .int .i64 0])) rfl (yl_move (by rfl) _ (by rfl) _ (by rfl)) hH ?_
  change wpAnyH _ _ _ _ _ _ _ (Act.put _ (some 24) _) _
  simp only [Act.put, s0, s1, s2]
  refine wt (i := 9) (v := (.bool true)) rfl (.inl ⟨by rfl, fun W _ => by go_simp⟩) hH ?_
  change wpAnyH _ _ _ _ _ _ _ (Act.put _ (some 33) _) _
  simp only [Act.put, s0, s1, s2]
  refine wt (i := 10) (v := (.int .i64 0)) rfl (.inl ⟨by rfl, fun W _ => by go_simp⟩) hH ?_
  change wpAnyH _ _ _ _ _ _ _ (Act.put _ (some 34) _) _
  simp only [Act.put, s0, s1, s2]
  refine wt (i := 11) (v := (.bool true)) rfl (.inl ⟨by rfl, fun W _ => by go_simp⟩) hH ?_
  change wpAnyH _ _ _ _ _ _ _ (Act.put _ (some 8) _) _
  simp only [Act.put, s0, s1, s2]
  refine wt (i := 12) (v := (.int .i64 0)) rfl (.inl ⟨by rfl, fun W _ => by go_simp⟩) hH ?_
  change wpAnyH _ _ _ _ _ _ _ (Act.put _ (some 9) _) _
  simp only [Act.put, s0, s1, s2]
  refine wpAnyH_done (by kernel_rfl) ?_ _
  clear hH
  go_upto_region 11 with fail
  go_cut [10] from 38 to 46 (fun s10 wx => ∃ g10, s10 = .pointer (some ⟨g10, 0, none⟩) ∧ Hid (Below V5.heap.size V5 wx ∧ wx.heap[g10]? = some (.cells n17.pub.toArray 53 (0, 0))))
  case first =>
    have DV0 := hide (Below.refl V5.heap.size V5).drew
    refine wp_region_held_drew (S := fun W => Below V5.heap.size V5 W) (by kernel_rfl) DV0.out (fun hH => ?_)
    generalize V5.drew = V0 at *
    refine wt (i := 0) (v := (.pointer (some ⟨gch, 0, none⟩))) rfl (yl_move (by rfl) _ (by rfl) _ (by rfl)) hH ?_
    change wpAnyH _ _ _ _ _ _ _ (Act.put _ (some 39) _) _
    simp only [Act.put, s0, s1, s2]
    refine wt (i := 1) (v := (.pointer (some ⟨gch, 0, none⟩))) rfl (.inl ⟨by rfl, fun W _ => by go_simp⟩) hH ?_
    change wpAnyH _ _ _ _ _ _ _ (Act.put _ (some 40) _) _
    simp only [Act.put, s0, s1, s2]
    refine wt (i := 2) (v := (.pointer (some ⟨gch, 0, none⟩))) rfl (.inl ⟨by rfl, fun W _ => by go_simp⟩) hH ?_
    change wpAnyH _ _ _ _ _ _ _ (Act.put _ (some 41) _) _
    simp only [Act.put, s0, s1, s2]
    refine wt (i := 3) (v := (.pointer (some ⟨gt, 0, none⟩))) rfl (.inl ⟨by rfl, fun W hS => by have c4 := (X5.out.next hS).cells.1; go_simp⟩) hH ?_
    change wpAnyH _ _ _ _ _ _ _ (Act.put _ (some 42) _) _
    simp only [Act.put, s0, s1, s2]
    refine wt (i := 4) (v := (.agg C)) rfl (yl_load (by rfl) _ (by rfl) _ C (by rfl) (fun W hS => ld_row A25 IZ.out.1 ((hS.block _ (lt_heap R7c.out)).trans R7c.out))) hH ?_
    change wpAnyH _ _ _ _ _ _ _ (Act.put _ (some 43) _) _
    simp only [Act.put, s0, s1, s2]
    refine wpAnyH_ready (rs := [5, 9]) (by kernel_rfl) (by simp) (AllReadyH.cons rfl (fun K1 hK1 => ?_) (AllReadyH.cons rfl (fun K1 hK1 => ?_) AllReadyH.nil))
    · go_simp
      refine (HGt.out V0 _ (X5.out.next DV0.out).t).mono ?_
      rintro r V1a ⟨rfl, be⟩
      have DV1a := hide (below_next DV0.out be)
      clear be
      refine hK1.out _ _ DV1a.out (fun hH => ?_)
      clear hK1
      refine wt (i := 6) (v := (.tuple #[.agg n17.pub.toArray, .bool true])) rfl (yl_move (by rfl) _ (by rfl) _ (by rfl)) hH ?_
      change wpAnyH _ _ _ _ _ _ _ (Act.put _ (some 38) _) _
      simp only [Act.put, s0, s1, s2]
      refine wt (i := 7) (v := (.agg n17.pub.toArray)) rfl (.inl ⟨by rfl, fun W _ => by go_simp⟩) hH ?_
      change wpAnyH _ _ _ _ _ _ _ (Act.put _ (some 45) _) _
      simp only [Act.put, s0, s1, s2]
      refine wt (i := 8) (v := (.bool true)) rfl (.inl ⟨by rfl, fun W _ => by go_simp⟩) hH ?_
      change wpAnyH _ _ _ _ _ _ _ (Act.put _ (some 46) _) _
      simp only [Act.put, s0, s1, s2]
      refine wpAnyH_ready (rs := [9]) (by kernel_rfl) (by simp) (AllReadyH.cons rfl (fun K1 hK1 => ?_) AllReadyH.nil)
      have RV2a := hide (heap_alloc_last V1a (.cells zTno.pub.toArray 53))
      have DV2a := hide (below_next DV1a.out ((Below.refl V1a.heap.size V1a).alloc (Nat.le_refl _) (.cells zTno.pub.toArray 53)))
      have G12 : Hid (V5.heap.size ≤ V1a.heap.size) := DV1a.out.size
      refine stepAllocA ANo (by rfl) (by rfl) ?_
      refine hK1.out _ _ DV2a.out (fun hH => ?_)
      clear hK1
      change wpAnyH _ _ _ _ _ _ _ (Act.put _ (some 10) _) _
      simp only [Act.put, s0, s1, s2]
      generalize V1a.alloc (.cells zTno.pub.toArray 53) = V2a at *
      generalize V1a.heap.size = g10 at *
      refine wpAnyH_ready (rs := [10]) (by kernel_rfl) (by simp) (AllReadyH.cons rfl (fun K1 hK1 => ?_) AllReadyH.nil)
      refine stepStoreA ANo (by rfl) _ _ (by rfl) g10 n17.pub.toArray PZ.out.1 PZ.out.2 (by rfl) (by rfl) zTno.pub.toArray zTno.pubA_size _ RV2a.out ?_
      have DE := hide (below_setRow DV2a.out G12.out n17.pub.toArray)
      have RE := hide (setRow_heap _ _ _ n17.pub.toArray _ _ RV2a.out)
      refine hK1.out _ _ DE.out (fun hH => ?_)
      clear hK1
      change wpAnyH _ _ _ _ _ _ _ (Act.put _ none _) _
      simp only [Act.put]
      refine wt (i := 11) (v := (.bool true)) rfl (.inl ⟨by rfl, fun W _ => by go_simp⟩) hH ?_
      change wpAnyH _ _ _ _ _ _ _ (Act.put _ (some 11) _) _
      simp only [Act.put, s0, s1, s2]
      refine wpAnyH_done (by kernel_rfl) ?_ _
      go_wp2_with fail
      go_meet
      exact ⟨g10, rfl, DE.out, RE.out⟩
    · have RV1a := hide (heap_alloc_last V0 (.cells zTno.pub.toArray 53))
      have DV1a := hide (below_next DV0.out ((Below.refl V0.heap.size V0).alloc (Nat.le_refl _) (.cells zTno.pub.toArray 53)))
      have G12 : Hid (V5.heap.size ≤ V0.heap.size) := DV0.out.size
      refine stepAllocA ANo (by rfl) (by rfl) ?_
      refine hK1.out _ _ DV1a.out (fun hH => ?_)
      clear hK1
      change wpAnyH _ _ _ _ _ _ _ (Act.put _ (some 10) _) _
      simp only [Act.put, s0, s1, s2]
      generalize V0.alloc (.cells zTno.pub.toArray 53) = V1a at *
      generalize V0.heap.size = g10 at *
      refine wpAnyH_ready (rs := [5]) (by kernel_rfl) (by simp) (AllReadyH.cons rfl (fun K1 hK1 => ?_) AllReadyH.nil)
      go_simp
      refine (HGt.out V1a _ (X5.out.next DV1a.out).t).mono ?_
      rintro r V2a ⟨rfl, be⟩
      have DV2a := hide (below_next DV1a.out be)
      have RV2a := hide ((be.block _ (lt_heap RV1a.out)).trans RV1a.out)
      clear be
      refine hK1.out _ _ DV2a.out (fun hH => ?_)
      clear hK1
      refine wt (i := 6) (v := (.tuple #[.agg n17.pub.toArray, .bool true])) rfl (yl_move (by rfl) _ (by rfl) _ (by rfl)) hH ?_
      change wpAnyH _ _ _ _ _ _ _ (Act.put _ (some 38) _) _
      simp only [Act.put, s0, s1, s2]
      refine wt (i := 7) (v := (.agg n17.pub.toArray)) rfl (.inl ⟨by rfl, fun W _ => by go_simp⟩) hH ?_
      change wpAnyH _ _ _ _ _ _ _ (Act.put _ (some 45) _) _
      simp only [Act.put, s0, s1, s2]
      refine wt (i := 8) (v := (.bool true)) rfl (.inl ⟨by rfl, fun W _ => by go_simp⟩) hH ?_
      change wpAnyH _ _ _ _ _ _ _ (Act.put _ (some 46) _) _
      simp only [Act.put, s0, s1, s2]
      refine wpAnyH_ready (rs := [10]) (by kernel_rfl) (by simp) (AllReadyH.cons rfl (fun K1 hK1 => ?_) AllReadyH.nil)
      refine stepStoreA ANo (by rfl) _ _ (by rfl) g10 n17.pub.toArray PZ.out.1 PZ.out.2 (by rfl) (by rfl) zTno.pub.toArray zTno.pubA_size _ RV2a.out ?_
      have DE := hide (below_setRow DV2a.out G12.out n17.pub.toArray)
      have RE := hide (setRow_heap _ _ _ n17.pub.toArray _ _ RV2a.out)
      refine hK1.out _ _ DE.out (fun hH => ?_)
      clear hK1
      change wpAnyH _ _ _ _ _ _ _ (Act.put _ none _) _
      simp only [Act.put]
      refine wt (i := 11) (v := (.bool true)) rfl (.inl ⟨by rfl, fun W _ => by go_simp⟩) hH ?_
      change wpAnyH _ _ _ _ _ _ _ (Act.put _ (some 11) _) _
      simp only [Act.put, s0, s1, s2]
      refine wpAnyH_done (by kernel_rfl) ?_ _
      go_wp2_with fail
      go_meet
      exact ⟨g10, rfl, DE.out, RE.out⟩
  obtain ⟨g10, rfl, J10⟩ := hcut
  generalize wc = wx at *
  have X6 := hide (X5.out.next J10.out.1)
  have R4f := hide ((J10.out.1.block _ (lt_heap R4e.out)).trans R4e.out)
  have R7d := hide ((J10.out.1.block _ (lt_heap R7c.out)).trans R7c.out)
  have AG6 := hide (AGn.out _ _ SZ5.out J10.out.1 AG5.out)
  have SZ6 := hide (Nat.le_trans SZ5.out J10.out.1.size)
  have c108 := PB.out _ _ J10.out.2
  clear X5 R4e R7c AG5 SZ5 J10 HGt PZ
  go_upto_region 14 with fail
  clear c108 PB
  go_upto_region 18 with (first | (go_at_call 23; refine (HCk.out _ (HLQ.out _ AG6.out) (KA.out _ X6.out.bel)).mono ?_; rintro e W7 ⟨rfl, be⟩; have D7 := hide be; clear be) | ((with_reducible refine at_list ?_); refine wpList_loadS ABk _ rfl w.heap.size rfl BK BZ.out.1 62 R4f.out (by rfl) ?_))
  have b8 := below_next D7.out (Below.refl W7.heap.size W7).drew
  have X8 := hide (X6.out.next b8)
  have R4g := hide ((b8.block _ (lt_heap R4f.out)).trans R4f.out)
  have R7e := hide ((b8.block _ (lt_heap R7d.out)).trans R7d.out)
  have AG8 := hide (AGn.out _ _ SZ6.out b8 AG6.out)
  have SZ8 := hide (Nat.le_trans SZ6.out b8.size)
  clear X6 R4f R7d AG6 SZ6 D7 b8
  refine wp_region_held_drew (S := fun W => W.cell? ⟨gch, 0, none⟩ = some (.pointer (some ⟨gt, 0, none⟩)) ∧ W.heap[g7]? = some (.cells C 46 (0, 0))) (by kernel_rfl) ⟨X8.out.cells.1, R7e.out⟩ (fun hH => ?_)
  generalize W7.drew = V8 at *
  refine wt (i := 0) (v := (.pointer (some ⟨gch, 0, none⟩))) rfl (yl_move (by rfl) _ (by rfl) _ (by rfl)) hH ?_
  change wpAnyH _ _ _ _ _ _ _ (Act.put _ (some 60) _) _
  simp only [Act.put, s0, s1, s2]
  refine wt (i := 1) (v := (.pointer (some ⟨gch, 0, none⟩))) rfl (.inl ⟨by rfl, fun W _ => by go_simp⟩) hH ?_
  change wpAnyH _ _ _ _ _ _ _ (Act.put _ (some 61) _) _
  simp only [Act.put, s0, s1, s2]
  refine wt (i := 2) (v := (.pointer (some ⟨gch, 0, none⟩))) rfl (.inl ⟨by rfl, fun W _ => by go_simp⟩) hH ?_
  change wpAnyH _ _ _ _ _ _ _ (Act.put _ (some 62) _) _
  simp only [Act.put, s0, s1, s2]
  refine wt (i := 3) (v := (.pointer (some ⟨gt, 0, none⟩))) rfl (.inl ⟨by rfl, fun W hS => by have c4 := hS.1; go_simp⟩) hH ?_
  change wpAnyH _ _ _ _ _ _ _ (Act.put _ (some 63) _) _
  simp only [Act.put, s0, s1, s2]
  refine wt (i := 4) (v := (.agg C)) rfl (yl_load (by rfl) _ (by rfl) _ C (by rfl) (fun W hS => ld_row A25 IZ.out.1 hS.2)) hH ?_
  change wpAnyH _ _ _ _ _ _ _ (Act.put _ (some 64) _) _
  simp only [Act.put, s0, s1, s2]
  refine wpAnyH_ready (rs := [5]) (by kernel_rfl) (by simp) (AllReadyH.cons rfl (fun K1 hK1 => ?_) AllReadyH.nil)
  go_simp
  refine (HBd.out V8 _ X8.out.t).mono ?_
  rintro r V9 ⟨vb, rfl, L', sm, t9, f9⟩
  have SM := hide sm
  have X9 := hide (X8.out.tree t9 f9)
  have R4h := hide ((f9.block _ (lt_heap R4g.out) (NS2.out _ (Nat.le_refl _) L4.out.1)).trans R4g.out)
  have R7f := hide ((f9.block _ (lt_heap R7e.out) (NS2.out _ G7.out L4.out.2)).trans R7e.out)
  have AG9 := hide (AGf.out _ _ ve' SZ8.out OW.out f9 AG8.out)
  have SZ9 := hide (Nat.le_trans SZ8.out f9.size)
  refine hK1.out _ _ ⟨X9.out.cells.1, R7f.out⟩ (fun hH => ?_)
  clear hK1 sm t9 f9 X8 R4g R7e AG8 SZ8
  refine wpAnyH_done (by kernel_rfl) ?_ _
  clear hH
  go_upto_region 19 with fail
  have b10 := (Below.refl V9.heap.size V9).drew
  have XA := hide (X9.out.next b10)
  have R4i := hide ((b10.block _ (lt_heap R4h.out)).trans R4h.out)
  have R7g := hide ((b10.block _ (lt_heap R7f.out)).trans R7f.out)
  have AGA := hide (AGn.out _ _ SZ9.out b10 AG9.out)
  have SZA := hide (Nat.le_trans SZ9.out b10.size)
  clear X9 R4h R7f AG9 SZ9 b10
  refine wp_region_held_drew (S := fun W => W.cell? ⟨gch, 2, none⟩ = some (.map (some gb)) ∧ (W.heap[g7]? = some (.cells C 46 (0, 0)) ∧ W.heap[w.heap.size]? = some (.cells BK 62 (0, 0)))) (by kernel_rfl) ⟨XA.out.cells.2.2.1, R7g.out, R4i.out⟩ (fun hH => ?_)
  generalize V9.drew = VA at *
  refine wt (i := 0) (v := (.pointer (some ⟨gch, 0, none⟩))) rfl (yl_move (by rfl) _ (by rfl) _ (by rfl)) hH ?_
  change wpAnyH _ _ _ _ _ _ _ (Act.put _ (some 66) _) _
  simp only [Act.put, s0, s1, s2]
  refine wt (i := 1) (v := (.pointer (some ⟨gch, 0, none⟩))) rfl (.inl ⟨by rfl, fun W _ => by go_simp⟩) hH ?_
  change wpAnyH _ _ _ _ _ _ _ (Act.put _ (some 67) _) _
  simp only [Act.put, s0, s1, s2]
  refine wt (i := 2) (v := (.pointer (some ⟨gch, 2, none⟩))) rfl (.inl ⟨by rfl, fun W _ => by go_simp⟩) hH ?_
  change wpAnyH _ _ _ _ _ _ _ (Act.put _ (some 68) _) _
  simp only [Act.put, s0, s1, s2]
  refine wt (i := 3) (v := (.map (some gb))) rfl (.inl ⟨by rfl, fun W hS => by have c4 := hS.1; go_simp⟩) hH ?_
  change wpAnyH _ _ _ _ _ _ _ (Act.put _ (some 69) _) _
  simp only [Act.put, s0, s1, s2]
  refine wt (i := 4) (v := (.agg C)) rfl (yl_load (by rfl) _ (by rfl) _ C (by rfl) (fun W hS => ld_row A25 IZ.out.1 hS.2.1)) hH ?_
  change wpAnyH _ _ _ _ _ _ _ (Act.put _ (some 70) _) _
  simp only [Act.put, s0, s1, s2]
  refine wt (i := 5) (v := (.agg BK)) rfl (yl_load (by rfl) _ (by rfl) _ BK (by rfl) (fun W hS => ld_row ABk BZ.out.1 hS.2.2)) hH ?_
  change wpAnyH _ _ _ _ _ _ _ (Act.put _ (some 71) _) _
  simp only [Act.put, s0, s1, s2]
  refine wpAnyH_ready (rs := [6]) (by kernel_rfl) (by simp) (AllReadyH.cons rfl (fun K1 hK1 => ?_) AllReadyH.nil)
  go_simp
  refine (HCp.out VA (HLQ.out _ AGA.out)).mono ?_
  rintro r VB ⟨ao, cap, y, rfl, lq, ym, be⟩
  have XB := hide (XA.out.next be)
  have R4j := hide ((be.block _ (lt_heap R4i.out)).trans R4i.out)
  have R7h := hide ((be.block _ (lt_heap R7g.out)).trans R7g.out)
  have LB := hide lq
  have AGB := hide (AGn.out _ _ SZA.out be AGA.out)
  have SZB := hide (Nat.le_trans SZA.out be.size)
  have YM := hide (ym.trans HXM.out)
  have GBL : Hid (gb < VA.heap.size) := XA.out.b.lt
  refine hK1.out _ _ ⟨XB.out.cells.2.2.1, R7h.out, R4j.out⟩ (fun hH => ?_)
  clear hK1 be lq ym XA R4i R7g AGA
  obtain ⟨R, rr1, rr2, rr3⟩ := HBR.out ao cap
  obtain ⟨VC, hrun, om, gr⟩ := MP.out VB R ao cap XB.out.b rr1 rr2
  have fr := Frt.of_grown (S := fun g => g = gb) gr (by intro g e; cases e; rfl)
  have XC := hide (XB.out.bod om fr)
  have LC := hide (LB.out VC (fun g h1 h2 => fr.block g h2 (by have := GBL.out; omega)))
  have AGC : Hid (∀ g, a ≤ g → g < b → VC.heap[g]? = w.heap[g]?) := fun g h1 h2 => (fr.block g (by have := SZB.out; omega) (by omega)).trans (AGB.out g h1 h2)
  have gbw : w.heap.size ≠ gb ∧ g7 ≠ gb := ⟨ne_map R4j.out XB.out.b, ne_map R7h.out XB.out.b⟩
  have RR := hide (And.intro (rr2 _ _ boR_zero) rr3)
  refine wpAnyH_ready (rs := [7]) (by kernel_rfl) (by simp) (AllReadyH.cons rfl (fun K1 hK1 => ?_) AllReadyH.nil)
  refine step_skip14 (by rfl) (ex_mapU14 _ _ _ _ (by rfl) _ _ _ (by rfl) (by rfl) (by rfl) hrun) ?_
  refine hK1.out _ _ ⟨XC.out.cells.2.2.1, (fr.block _ (lt_heap R7h.out) gbw.2).trans R7h.out, (fr.block _ (lt_heap R4j.out) gbw.1).trans R4j.out⟩ (fun hH => ?_)
  clear hK1 hrun om gr fr gbw rr1 rr2 rr3
  change wpAnyH _ _ _ _ _ _ _ (Act.put _ none _) _
  simp only [Act.put]
  refine wpAnyH_done (by kernel_rfl) ?_ _
  clear hH
  go_wp2
  go_ret
  exact ⟨rfl, _, _, R, ao, cap, y, XC.out, SM.out, RR.out.1, RR.out.2, ⟨LC.out, YM.out⟩, AGC.out⟩
end
end Go.Proofs.YtcoojkpimbddlaaGreatDoor
