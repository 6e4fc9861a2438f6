/- A chain: a step; a block is connected: its contract. -/
import Derived.Test.YtcoojkpimbddlaaGreatDoorP0
import Derived.Test.YtcoojkpimbddlaaGreatDoorX44
namespace Go.Proofs.YtcoojkpimbddlaaGreatDoor
open Go.RowKit
open Go.Deep
open Go.Maps
set_option linter.unusedVariables false
set_option linter.unusedSimpArgs false
structure Sp17 where
  k : Int
  id : List UInt8
  h : Int
  e : Int
  hi : id.length = 32
def Sp17.cells (x : Sp17) : List Value := .int .i64 x.k :: (cellsL x.id ++ [.int .i64 x.h, .int .i64 x.e])
theorem Sp17.len (x : Sp17) : x.cells.length = 35 := by
  simp only [Sp17.cells, List.length_cons, List.length_append, cellsL_len, x.hi, List.length_nil]
theorem Sp17.one (x : Sp17) : ∀ v ∈ x.cells, v.oneCell' = true := by
  intro v hv
  simp only [Sp17.cells, List.mem_cons, List.mem_append, List.not_mem_nil, or_false] at hv
  rcases hv with rfl | h | rfl | rfl
  · rfl
  · exact cellsL_one14 _ v h
  · rfl
  · rfl
theorem Sp17.size (x : Sp17) : x.cells.toArray.size = 35 := by rw [List.size_toArray, x.len]
theorem Sp17.all (x : Sp17) : x.cells.toArray.all (·.oneCell') = true := all_of_one x.one
def zSp : Sp17 := ⟨0, zeros, 0, 0, zeros_len⟩
theorem ASt : Arr 215 35 zSp.cells.toArray := ⟨.inr ⟨_, Tryz.underlying215⟩, by kernel_rfl, fun w => by kernel_rfl, fun w => by kernel_rfl, by rw [List.size_toArray, Sp17.len]⟩
def KSt : Ek Sp17 := ⟨98, 215, 35, 56, Sp17.cells, by decide, by decide, Tryz.underlying98, by kernel_rfl, Sp17.len, Sp17.one⟩
theorem bld_St (l : List UInt8) (hl : l.length = 32) (W : World) : (Instr.build 215 #[(0, .int .i64 2), (1, .agg (hc l)), (2, .int .i64 1)]).run Tryz.prog W = .ok (.agg (⟨2, l, 1, 0, hl⟩ : Sp17).cells.toArray) W := by
  obtain ⟨_, _, _, _, _, _, _, _, _, _, _, _, _, _, _, _, _, _, _, _, _, _, _, _, _, _, _, _, _, _, _, _, rfl⟩ := id32' l hl
  kernel_rfl
theorem au17 : (#[Value.slice none 0 0] : Array Value).all (·.oneCell') = true := by kernel_rfl
theorem Frt.row17 (W : World) (g : Nat) (cs : Array Value) : Frt (fun q => q = g) W (W.setRow g cs) := ⟨rfl, rfl, rfl, by simp, fun k _ hn => setRow_other W g k cs hn⟩
theorem Chw.row17 {B W : World} {gch gt gm nn : Nat} {DT : DataW Unit} {ve : Value} {L : List Tno} {tu be bh gc bm bc n m : Nat} {tip : List UInt8} {ht : Int} {DC EC : DataW Unit} {R : Value → Option (DataW Unit × List MemPlace)} {gb nb : Nat} {DB : DataW Unit} {gu nu : Nat} {DU : DataW Unit} (h : Chw B W gch gt gm nn DT ve L tu be bh gc bm bc n m tip ht DC EC R gb nb DB gu nu DU) {g : Nat} {cur : Array Value} {t : TypeId} (r : W.heap[g]? = some (.cells cur t (0, 0))) (hg : B.heap.size ≤ g) (n1 : t ≠ 208) (n2 : t ≠ 123) (n3 : t ≠ 178) (n4 : t ≠ 120) (cs : Array Value) : Chw B (W.setRow g cs) gch gt gm nn DT ve L tu be bh gc bm bc n m tip ht DC EC R gb nb DB gu nu DU := by
  have F := Frt.row17 W g cs
  exact ⟨(F.block _ (lt_heap h.row) (ne_ty r h.row n1).symm).trans h.row, h.t.fr F (by
    rintro q rfl
    refine ⟨hg, ne_ty r h.t.row n2, ne_map r h.t.map, fun e => ?_⟩
    obtain ⟨c, hc⟩ := h.t.own.rowT e
    exact ne_ty r hc n4 rfl), h.c.fr F (by
    rintro q rfl
    exact ⟨hg, ne_ty r h.c.row n3, ne_map r h.c.mp, ne_map r h.c.ct⟩), own_block h.b (F.block _ h.b.lt (ne_map r h.b).symm), own_block h.u (F.block _ h.u.lt (ne_map r h.u).symm), h.bg, h.bb, h.bu, h.n1, h.n2, h.n3⟩
section
set_option maxRecDepth 10000
set_option maxHeartbeats 8000000
theorem connect17 {A w : World} {gch gt gm : Nat} {ve : Value} {L : List Tno} {gc bm bc gb gu : Nat} {R : Value → Option (DataW Unit × List MemPlace)} (h : Chw A w gch gt gm 2 m17 ve L 2 1 1 gc bm bc 0 0 (gH.at 1).id 0 (.map []) (.map []) R gb 2 DC17 gu 0 (.map [])) (hK : Kg A) (ao : Option Addr) (cap : Nat) (y : Tq) (hy : y.m = T17) (hz : R (.agg (bkA zHd (.slice none 0 0))) = some (.lit (.int .i64 0), [])) (hR : ∀ u ps, R u = some (.lit (.int .i64 2), ps) → u = .agg (bkA (h17.at 2) (.slice ao 1 cap))) (hL : LQ w (.slice ao 1 cap) [y]) :
    Calls Tryz.prog 174 #[.pointer (some ⟨gch, 0, none⟩), .agg (hc (h17.at 2).id)] w fun e w' => e = .returned (.agg (⟨2, (h17.at 2).id, 1, 0, Hd.id_len _⟩ : Sp17).cells.toArray) ∧ (∃ DC EC DU, Chw A w' gch gt gm 2 m17 ve L 2 1 1 gc bm bc 1 1 (h17.at 2).id 1 DC EC R gb 2 DC17 gu 1 DU) ∧ Frt (fun g => S5 gc bm bc g ∨ g = gu) w w' := by
  have s1 : (w.alloc (.cells (hc (h17.at 2).id) 46)).heap.size = w.heap.size + 1 := by simp
  have R3 := hide ((Below.heap_alloc _ (.cells zSp.cells.toArray 215) _ (lt_heap (heap_alloc_last w (.cells (hc (h17.at 2).id) 46)))).trans (heap_alloc_last w (.cells (hc (h17.at 2).id) 46)))
  have R4 := hide (heap_alloc_last (w.alloc (.cells (hc (h17.at 2).id) 46)) (.cells zSp.cells.toArray 215))
  have b1 := ((Below.refl w.heap.size w).alloc (Nat.le_refl _) (.cells (hc (h17.at 2).id) 46)).alloc (by rw [s1]; omega) (.cells zSp.cells.toArray 215)
  rw [s1] at R4
  have X1 := hide (h.next b1)
  have F1 := hide (Frt.of_below (S := fun g => S5 gc bm bc g ∨ g = gu) b1)
  have L1 := hide (hL.below b1)
  have NS : Hid (∀ g, w.heap.size ≤ g → ¬ S5 gc bm bc g ∧ g ≠ gu) := fun g hg => by
    have q1 := lt_heap h.c.row
    have q2 := h.c.mp.lt
    have q3 := h.c.ct.lt
    have q4 := h.u.lt
    refine ⟨?_, by omega⟩
    rintro (e | e | e) <;> omega
  have SA := hide h.bel.size
  have IL := hide (Hd.id_len (h17.at 2))
  have IZ := hide (And.intro (show (hc (h17.at 2).id).size = 32 by rw [hc_size, Hd.id_len]) (hc_one (h17.at 2).id))
  have GZ := hide (And.intro (show (hc (gH.at 1).id).size = 32 by rw [hc_size, Hd.id_len]) (hc_one (gH.at 1).id))
  have HT : Hid (∀ W, Chw A W gch gt gm 2 m17 ve L 2 1 1 gc bm bc 0 0 (gH.at 1).id 0 (.map []) (.map []) R gb 2 DC17 gu 0 (.map []) → Calls Tryz.prog 25 #[.pointer (some ⟨gc, 0, none⟩)] W fun e w' => e = .returned (.tuple #[.agg (hc (gH.at 1).id), .int .i64 0]) ∧ Below W.heap.size W w') := fun W q => tip_any q.c
  have HCn : Hid (∀ W, Cst A W gc bm bc 0 0 (gH.at 1).id 0 (.map []) (.map []) → LQ W (.slice ao 1 cap) [y] → Calls Tryz.prog 29 #[.pointer (some ⟨gc, 0, none⟩), .agg (bkA (h17.at 2) (.slice ao 1 cap)), .int .i64 1] W fun e w' => e = .returned (.tuple #[.agg #[.slice none 0 0], .int .i64 0]) ∧ ∃ DC EC, Cst A w' gc bm bc 1 1 (h17.at 2).id 1 DC EC ∧ Frt (S5 gc bm bc) W w') := fun W c l => (connect_fr (k := 0) (h := h17.at 2) c (by omega) (.slice ao 1 cap) y l o17 (ok17 y hy) hK).mono fun e w' q => ⟨q.1, _, _, q.2.1, q.2.2⟩
  have LK : Hid (∀ W, W.ownsMap Tryz.prog 46 R gb 2 DC17 → (Instr.lookup 205 (.map (some gb)) (.agg (hc (h17.at 2).id)) false).run Tryz.prog W = .ok (.agg (bkA (h17.at 2) (.slice ao 1 cap))) W) := fun W q => look17_at q _ (Hd.id_len _) _ (.lit (.int .i64 2)) hz (atKey_put_same ⟨_, rfl⟩ (by simp [WideAt.IsKeyLit]) _ _) hR
  have MU : Hid (∀ (W : World), W.ownsMap Tryz.prog 46 unR gu 0 (.map []) → ∃ W' DU, (Instr.mapUpdate 206 (.map (some gu)) (.agg (hc (h17.at 2).id)) (.agg #[.slice none 0 0])).run Tryz.prog W = .ok () W' ∧ W'.ownsMap Tryz.prog 46 unR gu 1 DU ∧ W.grownBy W' (some gu)) := fun W q => by
    obtain ⟨W', hr, ho, hg⟩ := q.store (val := .agg #[.slice none 0 0]) (d := .lit (.int .i64 0)) (ps := []) lawH14 Tryz.underlying206 (by unfold maxLen; omega) (keyH14 _ (Hd.id_len _)) rfl
    exact ⟨W', _, hr, ho, hg.grown⟩
  have BS := hide (fun W => bld_St (h17.at 2).id (Hd.id_len _) W)
  have SZ := hide (And.intro (⟨2, (h17.at 2).id, 1, 0, Hd.id_len _⟩ : Sp17).size (⟨2, (h17.at 2).id, 1, 0, Hd.id_len _⟩ : Sp17).all)
  clear b1 h hK hy hz hR hL
  generalize bkA (h17.at 2) (.slice ao 1 cap) = BK at *
  generalize (⟨2, (h17.at 2).id, 1, 0, Hd.id_len _⟩ : Sp17).cells.toArray = ST at *
  generalize hHI : (h17.at 2).id = HI at *
  clear hHI
  generalize (gH.at 1).id = GI at *
  generalize hc GI = CG at *
  generalize hc HI = C at *
  go_enter Tryz.func174, Tryz.ntmps174
  go_upto_region 1 with ((with_reducible refine at_list ?_); first | refine wpList_boxA rfl _ rfl C rfl ?_ | refine wpList_allocA ASt rfl rfl ?_)
  try rw [s1]
  clear s1
  generalize (w.alloc (.cells C 46)).alloc (.cells zSp.cells.toArray 215) = W0 at *
  have c1 := X1.out.cells.2.1
  go_upto_region 3 with (first | (go_at_call 25; refine (HT.out _ X1.out).mono ?_; rintro e W1 ⟨rfl, be⟩; have D1 := hide be; clear be) | ((with_reducible refine at_list ?_); first | refine wpList_allocA A25 rfl rfl ?_ | refine wpList_store_newA A25 rfl _ _ rfl _ rfl CG GZ.out.1 GZ.out.2 rfl rfl ?_))
  have b2 := below_next D1.out ((Below.refl W1.heap.size W1).alloc (Nat.le_refl _) (.cells CG 46))
  have X2 := hide (X1.out.next b2)
  have F2 := hide (F1.out.next b2)
  have L2 := hide (L1.out.below b2)
  have R3b := hide ((b2.block _ (lt_heap R3.out)).trans R3.out)
  have R4b := hide ((b2.block _ (lt_heap R4.out)).trans R4.out)
  clear b2 c1 X1 F1 L1 R3 R4 D1 HT
  generalize W1.alloc (.cells CG 46) = W2 at *
  go_cut [7, 8] from 19 to 33 (fun s7 s8 wx => ∃ g7, s7 = .pointer (some ⟨g7, 0, none⟩) ∧ s8 = .int .i64 0 ∧ Hid (∃ DC EC, Chw A wx gch gt gm 2 m17 ve L 2 1 1 gc bm bc 1 1 HI 1 DC EC R gb 2 DC17 gu 0 (.map []) ∧ Frt (fun g => S5 gc bm bc g ∨ g = gu) w wx ∧ wx.heap[w.heap.size]? = some (.cells C 46 (0, 0)) ∧ wx.heap[w.heap.size + 1]? = some (.cells zSp.cells.toArray 215 (0, 0)) ∧ wx.heap[g7]? = some (.cells #[.slice none 0 0] 91 (0, 0))))
  case first =>
    have FM : Hid (∀ W W', Frt (S5 gc bm bc) W W' → Frt (fun g => S5 gc bm bc g ∨ g = gu) W W') := fun W W' f => f.mono fun g e => .inl e
    have DV0 := hide (Below.refl W2.heap.size W2).drew
    have X3 := hide (X2.out.next DV0.out)
    have F3 := hide (F2.out.next DV0.out)
    have L3 := hide (L2.out.below DV0.out)
    have R3c := hide ((DV0.out.block _ (lt_heap R3b.out)).trans R3b.out)
    have R4c := hide ((DV0.out.block _ (lt_heap R4b.out)).trans R4b.out)
    clear X2 F2 L2 R3b R4b
    refine wp_region_held_drew (S := fun W => (W.cell? ⟨gch, 1, none⟩ = some (.pointer (some ⟨gc, 0, none⟩)) ∧ W.cell? ⟨gch, 2, none⟩ = some (.map (some gb))) ∧ W.heap[w.heap.size]? = some (.cells C 46 (0, 0)) ∧ W.ownsMap Tryz.prog 46 R gb 2 DC17) (by kernel_rfl) ⟨⟨X3.out.cells.2.1, X3.out.cells.2.2.1⟩, R3c.out, X3.out.b⟩ (fun hH => ?_)
    generalize W2.drew = V0 at *
    refine wt (i := 0) (v := (.pointer (some ⟨gch, 0, none⟩))) rfl (yl_move (by rfl) _ (by rfl) _ (by rfl)) hH ?_
    change wpAnyH _ _ _ _ _ _ _ (Act.put _ (some 20) _) _
    simp only [Act.put, List.setIfInBounds_toArray, List.set_cons_zero, List.set_cons_succ]
    refine wt (i := 1) (v := (.pointer (some ⟨gch, 0, none⟩))) rfl (.inl ⟨by rfl, fun W _ => by go_simp⟩) hH ?_
    change wpAnyH _ _ _ _ _ _ _ (Act.put _ (some 21) _) _
    simp only [Act.put, List.setIfInBounds_toArray, List.set_cons_zero, List.set_cons_succ]
    refine wt (i := 2) (v := (.pointer (some ⟨gch, 1, none⟩))) rfl (.inl ⟨by rfl, fun W _ => by go_simp⟩) hH ?_
    change wpAnyH _ _ _ _ _ _ _ (Act.put _ (some 22) _) _
    simp only [Act.put, List.setIfInBounds_toArray, List.set_cons_zero, List.set_cons_succ]
    refine wt (i := 3) (v := (.pointer (some ⟨gc, 0, none⟩))) rfl (.inl ⟨by rfl, fun W hS => by have c4 := hS.1.1; go_simp⟩) hH ?_
    change wpAnyH _ _ _ _ _ _ _ (Act.put _ (some 23) _) _
    simp only [Act.put, List.setIfInBounds_toArray, List.set_cons_zero, List.set_cons_succ]
    refine wt (i := 4) (v := (.pointer (some ⟨gch, 0, none⟩))) rfl (yl_move (by rfl) _ (by rfl) _ (by rfl)) hH ?_
    change wpAnyH _ _ _ _ _ _ _ (Act.put _ (some 24) _) _
    simp only [Act.put, List.setIfInBounds_toArray, List.set_cons_zero, List.set_cons_succ]
    refine wt (i := 5) (v := (.pointer (some ⟨gch, 0, none⟩))) rfl (.inl ⟨by rfl, fun W _ => by go_simp⟩) hH ?_
    change wpAnyH _ _ _ _ _ _ _ (Act.put _ (some 25) _) _
    simp only [Act.put, List.setIfInBounds_toArray, List.set_cons_zero, List.set_cons_succ]
    refine wt (i := 6) (v := (.pointer (some ⟨gch, 2, none⟩))) rfl (.inl ⟨by rfl, fun W _ => by go_simp⟩) hH ?_
    change wpAnyH _ _ _ _ _ _ _ (Act.put _ (some 26) _) _
    simp only [Act.put, List.setIfInBounds_toArray, List.set_cons_zero, List.set_cons_succ]
    refine wt (i := 7) (v := (.map (some gb))) rfl (.inl ⟨by rfl, fun W hS => by have c4 := hS.1.2; go_simp⟩) hH ?_
    change wpAnyH _ _ _ _ _ _ _ (Act.put _ (some 27) _) _
    simp only [Act.put, List.setIfInBounds_toArray, List.set_cons_zero, List.set_cons_succ]
    refine wt (i := 8) (v := (.agg C)) rfl (yl_load (by rfl) _ (by rfl) _ C (by rfl) (fun W hS => ld_row A25 IZ.out.1 hS.2.1)) hH ?_
    change wpAnyH _ _ _ _ _ _ _ (Act.put _ (some 28) _) _
    simp only [Act.put, List.setIfInBounds_toArray, List.set_cons_zero, List.set_cons_succ]
    refine wt (i := 9) (v := (.agg BK)) rfl (yl_look17 (by rfl) _ _ _ (by rfl) _ _ (by rfl) (by rfl) _ (fun W hS => LK.out W hS.2.2)) hH ?_
    change wpAnyH _ _ _ _ _ _ _ (Act.put _ (some 29) _) _
    simp only [Act.put, List.setIfInBounds_toArray, List.set_cons_zero, List.set_cons_succ]
    refine wt (i := 10) (v := (.int .i64 1)) rfl (yl_move (by rfl) _ (by rfl) _ (by rfl)) hH ?_
    change wpAnyH _ _ _ _ _ _ _ (Act.put _ (some 30) _) _
    simp only [Act.put, List.setIfInBounds_toArray, List.set_cons_zero, List.set_cons_succ]
    refine wpAnyH_ready (rs := [11, 15]) (by kernel_rfl) (by simp) (AllReadyH.cons rfl (fun K1 hK1 => ?_) (AllReadyH.cons rfl (fun K1 hK1 => ?_) AllReadyH.nil))
    · go_simp
      refine (HCn.out V0 X3.out.c L3.out).mono ?_
      rintro r V1 ⟨rfl, DC, EC, c1, f1⟩
      have X4 := hide (X3.out.coins c1 f1)
      have F4 := hide (F3.out.trans' (FM.out _ _ f1))
      have R3d := hide ((f1.block _ (lt_heap R3c.out) (NS.out _ (Nat.le_refl _)).1).trans R3c.out)
      have R4d := hide ((f1.block _ (lt_heap R4c.out) (NS.out _ (Nat.le_succ _)).1).trans R4c.out)
      refine hK1.out _ _ ⟨⟨X4.out.cells.2.1, X4.out.cells.2.2.1⟩, R3d.out, X4.out.b⟩ (fun hH => ?_)
      clear hK1 c1 f1 X3 F3 L3 R3c R4c
      refine wt (i := 12) (v := (.tuple #[.agg #[.slice none 0 0], .int .i64 0])) rfl (yl_move (by rfl) _ (by rfl) _ (by rfl)) hH ?_
      change wpAnyH _ _ _ _ _ _ _ (Act.put _ (some 19) _) _
      simp only [Act.put, List.setIfInBounds_toArray, List.set_cons_zero, List.set_cons_succ]
      refine wt (i := 13) (v := (.agg #[.slice none 0 0])) rfl (.inl ⟨by rfl, fun W _ => by go_simp⟩) hH ?_
      change wpAnyH _ _ _ _ _ _ _ (Act.put _ (some 32) _) _
      simp only [Act.put, List.setIfInBounds_toArray, List.set_cons_zero, List.set_cons_succ]
      refine wt (i := 14) (v := (.int .i64 0)) rfl (.inl ⟨by rfl, fun W _ => by go_simp⟩) hH ?_
      change wpAnyH _ _ _ _ _ _ _ (Act.put _ (some 33) _) _
      simp only [Act.put, List.setIfInBounds_toArray, List.set_cons_zero, List.set_cons_succ]
      refine wpAnyH_ready (rs := [15]) (by kernel_rfl) (by simp) (AllReadyH.cons rfl (fun K1 hK1 => ?_) AllReadyH.nil)
      have RV2 := hide (heap_alloc_last V1 (.cells #[.slice none 0 0] 91))
      have G7 : Hid (w.heap.size ≤ V1.heap.size) := Nat.le_of_lt (lt_heap R3d.out)
      have b5 := (Below.refl V1.heap.size V1).alloc (Nat.le_refl _) (.cells #[.slice none 0 0] 91)
      have X5 := hide (X4.out.next b5)
      have F5 := hide (F4.out.next b5)
      have R3e := hide ((b5.block _ (lt_heap R3d.out)).trans R3d.out)
      have R4e := hide ((b5.block _ (lt_heap R4d.out)).trans R4d.out)
      refine stepAllocA AUn (by rfl) (by rfl) ?_
      refine hK1.out _ _ ⟨⟨X5.out.cells.2.1, X5.out.cells.2.2.1⟩, R3e.out, X5.out.b⟩ (fun hH => ?_)
      clear hK1 b5 X4 F4 R3d R4d
      change wpAnyH _ _ _ _ _ _ _ (Act.put _ (some 7) _) _
      simp only [Act.put, List.setIfInBounds_toArray, List.set_cons_zero, List.set_cons_succ]
      generalize V1.alloc (.cells #[.slice none 0 0] 91) = V2 at *
      generalize V1.heap.size = g7 at *
      refine wpAnyH_ready (rs := [16]) (by kernel_rfl) (by simp) (AllReadyH.cons rfl (fun K1 hK1 => ?_) AllReadyH.nil)
      refine stepStoreA AUn (by rfl) _ _ (by rfl) g7 #[.slice none 0 0] rfl au17 (by rfl) (by rfl) #[.slice none 0 0] rfl _ RV2.out ?_
      have X6 := hide (X5.out.row17 RV2.out (by have := SA.out; have := G7.out; omega) (by decide) (by decide) (by decide) (by decide) #[.slice none 0 0])
      have F6 := hide (F5.out.step (Frt.row17 V2 g7 #[.slice none 0 0]) (fun g hg e => by have := G7.out; omega))
      have R3f := hide ((setRow_other V2 g7 _ #[.slice none 0 0] (ne_ty R3e.out RV2.out (by decide))).trans R3e.out)
      have R4f := hide ((setRow_other V2 g7 _ #[.slice none 0 0] (ne_ty R4e.out RV2.out (by decide))).trans R4e.out)
      have RV3 := hide (setRow_heap _ _ _ #[.slice none 0 0] _ _ RV2.out)
      refine hK1.out _ _ ⟨⟨X6.out.cells.2.1, X6.out.cells.2.2.1⟩, R3f.out, X6.out.b⟩ (fun hH => ?_)
      clear hK1
      change wpAnyH _ _ _ _ _ _ _ (Act.put _ none _) _
      simp only [Act.put]
      refine wt (i := 17) (v := (.int .i64 0)) rfl (.inl ⟨by rfl, fun W _ => by go_simp⟩) hH ?_
      change wpAnyH _ _ _ _ _ _ _ (Act.put _ (some 8) _) _
      simp only [Act.put, List.setIfInBounds_toArray, List.set_cons_zero, List.set_cons_succ]
      refine wpAnyH_done (by kernel_rfl) ?_ _
      go_wp2_with fail
      go_meet
      exact ⟨g7, rfl, rfl, DC, EC, X6.out, F6.out, R3f.out, R4f.out, RV3.out⟩
    · have RV1 := hide (heap_alloc_last V0 (.cells #[.slice none 0 0] 91))
      have b5 := (Below.refl V0.heap.size V0).alloc (Nat.le_refl _) (.cells #[.slice none 0 0] 91)
      have X4 := hide (X3.out.next b5)
      have F4 := hide (F3.out.next b5)
      have L4 := hide (L3.out.below b5)
      have R3d := hide ((b5.block _ (lt_heap R3c.out)).trans R3c.out)
      have R4d := hide ((b5.block _ (lt_heap R4c.out)).trans R4c.out)
      have G7 : Hid (w.heap.size ≤ V0.heap.size) := Nat.le_of_lt (lt_heap R3c.out)
      refine stepAllocA AUn (by rfl) (by rfl) ?_
      refine hK1.out _ _ ⟨⟨X4.out.cells.2.1, X4.out.cells.2.2.1⟩, R3d.out, X4.out.b⟩ (fun hH => ?_)
      clear hK1 b5 X3 F3 L3 R3c R4c
      change wpAnyH _ _ _ _ _ _ _ (Act.put _ (some 7) _) _
      simp only [Act.put, List.setIfInBounds_toArray, List.set_cons_zero, List.set_cons_succ]
      generalize V0.alloc (.cells #[.slice none 0 0] 91) = V1 at *
      generalize V0.heap.size = g7 at *
      refine wpAnyH_ready (rs := [11]) (by kernel_rfl) (by simp) (AllReadyH.cons rfl (fun K1 hK1 => ?_) AllReadyH.nil)
      go_simp
      refine (HCn.out V1 X4.out.c L4.out).mono ?_
      rintro r V2 ⟨rfl, DC, EC, c1, f1⟩
      have X5 := hide (X4.out.coins c1 f1)
      have F5 := hide (F4.out.trans' (FM.out _ _ f1))
      have R3e := hide ((f1.block _ (lt_heap R3d.out) (NS.out _ (Nat.le_refl _)).1).trans R3d.out)
      have R4e := hide ((f1.block _ (lt_heap R4d.out) (NS.out _ (Nat.le_succ _)).1).trans R4d.out)
      have RV2 := hide ((f1.block _ (lt_heap RV1.out) (NS.out _ G7.out).1).trans RV1.out)
      refine hK1.out _ _ ⟨⟨X5.out.cells.2.1, X5.out.cells.2.2.1⟩, R3e.out, X5.out.b⟩ (fun hH => ?_)
      clear hK1 c1 f1 X4 F4 L4 R3d R4d RV1
      refine wt (i := 12) (v := (.tuple #[.agg #[.slice none 0 0], .int .i64 0])) rfl (yl_move (by rfl) _ (by rfl) _ (by rfl)) hH ?_
      change wpAnyH _ _ _ _ _ _ _ (Act.put _ (some 19) _) _
      simp only [Act.put, List.setIfInBounds_toArray, List.set_cons_zero, List.set_cons_succ]
      refine wt (i := 13) (v := (.agg #[.slice none 0 0])) rfl (.inl ⟨by rfl, fun W _ => by go_simp⟩) hH ?_
      change wpAnyH _ _ _ _ _ _ _ (Act.put _ (some 32) _) _
      simp only [Act.put, List.setIfInBounds_toArray, List.set_cons_zero, List.set_cons_succ]
      refine wt (i := 14) (v := (.int .i64 0)) rfl (.inl ⟨by rfl, fun W _ => by go_simp⟩) hH ?_
      change wpAnyH _ _ _ _ _ _ _ (Act.put _ (some 33) _) _
      simp only [Act.put, List.setIfInBounds_toArray, List.set_cons_zero, List.set_cons_succ]
      refine wpAnyH_ready (rs := [16]) (by kernel_rfl) (by simp) (AllReadyH.cons rfl (fun K1 hK1 => ?_) AllReadyH.nil)
      refine stepStoreA AUn (by rfl) _ _ (by rfl) g7 #[.slice none 0 0] rfl au17 (by rfl) (by rfl) #[.slice none 0 0] rfl _ RV2.out ?_
      have X6 := hide (X5.out.row17 RV2.out (by have := SA.out; have := G7.out; omega) (by decide) (by decide) (by decide) (by decide) #[.slice none 0 0])
      have F6 := hide (F5.out.step (Frt.row17 V2 g7 #[.slice none 0 0]) (fun g hg e => by have := G7.out; omega))
      have R3f := hide ((setRow_other V2 g7 _ #[.slice none 0 0] (ne_ty R3e.out RV2.out (by decide))).trans R3e.out)
      have R4f := hide ((setRow_other V2 g7 _ #[.slice none 0 0] (ne_ty R4e.out RV2.out (by decide))).trans R4e.out)
      have RV3 := hide (setRow_heap _ _ _ #[.slice none 0 0] _ _ RV2.out)
      refine hK1.out _ _ ⟨⟨X6.out.cells.2.1, X6.out.cells.2.2.1⟩, R3f.out, X6.out.b⟩ (fun hH => ?_)
      clear hK1
      change wpAnyH _ _ _ _ _ _ _ (Act.put _ none _) _
      simp only [Act.put]
      refine wt (i := 17) (v := (.int .i64 0)) rfl (.inl ⟨by rfl, fun W _ => by go_simp⟩) hH ?_
      change wpAnyH _ _ _ _ _ _ _ (Act.put _ (some 8) _) _
      simp only [Act.put, List.setIfInBounds_toArray, List.set_cons_zero, List.set_cons_succ]
      refine wpAnyH_done (by kernel_rfl) ?_ _
      go_wp2_with fail
      go_meet
      exact ⟨g7, rfl, rfl, DC, EC, X6.out, F6.out, R3f.out, R4f.out, RV3.out⟩
  obtain ⟨g7, rfl, rfl, J⟩ := hcut
  generalize wc = wx at *
  obtain ⟨DC, EC, x6, f6, r3, r4, r7⟩ := J.out
  have X6 := hide x6
  have F6 := hide f6
  have R3f := hide r3
  have R4f := hide r4
  have R7f := hide r7
  clear J x6 f6 r3 r4 r7 X2 F2 L2 R3b R4b HCn LK
  go_upto_region 7 with fail
  have b7 := (Below.refl wx.heap.size wx).drew
  have X7 := hide (X6.out.next b7)
  have F7 := hide (F6.out.next b7)
  have R3g := hide ((b7.block _ (lt_heap R3f.out)).trans R3f.out)
  have R4g := hide ((b7.block _ (lt_heap R4f.out)).trans R4f.out)
  have R7g := hide ((b7.block _ (lt_heap R7f.out)).trans R7f.out)
  clear b7 X6 F6 R3f R4f R7f
  refine wp_region_held_drew (S := fun W => W.cell? ⟨gch, 3, none⟩ = some (.map (some gu)) ∧ W.heap[w.heap.size]? = some (.cells C 46 (0, 0)) ∧ W.heap[g7]? = some (.cells #[.slice none 0 0] 91 (0, 0))) (by kernel_rfl) ⟨X7.out.cells.2.2.2, R3g.out, R7g.out⟩ (fun hH => ?_)
  generalize wx.drew = V5 at *
  refine wt (i := 0) (v := (.pointer (some ⟨gch, 0, none⟩))) rfl (yl_move (by rfl) _ (by rfl) _ (by rfl)) hH ?_
  change wpAnyH _ _ _ _ _ _ _ (Act.put _ (some 46) _) _
  simp only [Act.put, List.setIfInBounds_toArray, List.set_cons_zero, List.set_cons_succ]
  refine wt (i := 1) (v := (.pointer (some ⟨gch, 0, none⟩))) rfl (.inl ⟨by rfl, fun W _ => by go_simp⟩) hH ?_
  change wpAnyH _ _ _ _ _ _ _ (Act.put _ (some 47) _) _
  simp only [Act.put, List.setIfInBounds_toArray, List.set_cons_zero, List.set_cons_succ]
  refine wt (i := 2) (v := (.pointer (some ⟨gch, 3, none⟩))) rfl (.inl ⟨by rfl, fun W _ => by go_simp⟩) hH ?_
  change wpAnyH _ _ _ _ _ _ _ (Act.put _ (some 48) _) _
  simp only [Act.put, List.setIfInBounds_toArray, List.set_cons_zero, List.set_cons_succ]
  refine wt (i := 3) (v := (.map (some gu))) rfl (.inl ⟨by rfl, fun W hS => by have c4 := hS.1; go_simp⟩) hH ?_
  change wpAnyH _ _ _ _ _ _ _ (Act.put _ (some 49) _) _
  simp only [Act.put, List.setIfInBounds_toArray, List.set_cons_zero, List.set_cons_succ]
  refine wt (i := 4) (v := (.agg C)) rfl (yl_load (by rfl) _ (by rfl) _ C (by rfl) (fun W hS => ld_row A25 IZ.out.1 hS.2.1)) hH ?_
  change wpAnyH _ _ _ _ _ _ _ (Act.put _ (some 50) _) _
  simp only [Act.put, List.setIfInBounds_toArray, List.set_cons_zero, List.set_cons_succ]
  refine wt (i := 5) (v := (.agg #[.slice none 0 0])) rfl (yl_load (by rfl) _ (by rfl) _ #[.slice none 0 0] (by rfl) (fun W hS => ld_row AUn rfl hS.2.2)) hH ?_
  change wpAnyH _ _ _ _ _ _ _ (Act.put _ (some 51) _) _
  simp only [Act.put, List.setIfInBounds_toArray, List.set_cons_zero, List.set_cons_succ]
  obtain ⟨V6, DU, hrun, om, gr⟩ := MU.out V5 X7.out.u
  have fr := Frt.of_grown (S := fun g => g = gu) gr (by intro g e; cases e; rfl)
  have X8 := hide (X7.out.und om fr)
  have F8 := hide (F7.out.trans' (fr.mono (fun g e => .inr e)))
  have R3h := hide ((fr.block _ (lt_heap R3g.out) (NS.out _ (Nat.le_refl _)).2).trans R3g.out)
  have R4h := hide ((fr.block _ (lt_heap R4g.out) (NS.out _ (Nat.le_succ _)).2).trans R4g.out)
  have R7h := hide ((fr.block _ (lt_heap R7g.out) (ne_map R7g.out X7.out.u)).trans R7g.out)
  refine wpAnyH_ready (rs := [6]) (by kernel_rfl) (by simp) (AllReadyH.cons rfl (fun K1 hK1 => ?_) AllReadyH.nil)
  refine step_skip14 (by rfl) (ex_mapU14 _ _ _ _ (by rfl) _ _ _ (by rfl) (by rfl) (by rfl) hrun) ?_
  refine hK1.out _ _ ⟨X8.out.cells.2.2.2, R3h.out, R7h.out⟩ (fun hH => ?_)
  clear hK1 hrun om gr fr X7 F7 R3g R4g R7g
  change wpAnyH _ _ _ _ _ _ _ (Act.put _ none _) _
  simp only [Act.put]
  refine wpAnyH_done (by kernel_rfl) ?_ _
  clear hH R7h MU
  go_wp2_with ((with_reducible refine at_list ?_); first | refine wpList_loadS A25 _ rfl w.heap.size rfl C IZ.out.1 46 R3h.out (by rfl) ?_ | refine wpList_bldX rfl _ rfl #[(0, .int .i64 2), (1, .agg C), (2, .int .i64 1)] ST (by simp only [List.map_toArray, List.map_cons, List.map_nil]; rfl) BS.out ?_ | refine wpList_storeA ASt rfl _ _ rfl (w.heap.size + 1) ST SZ.out.1 SZ.out.2 rfl rfl zSp.cells.toArray zSp.size 215 R4h.out ?_)
  exact bodyPost_ret (v := .agg ST) (resA ASt Tryz.results174 _ _ (w.heap.size + 1) 215 _ SZ.out.1 rfl (setRow_heap _ _ _ _ _ _ R4h.out)) rfl ⟨rfl, ⟨DC, EC, DU, X8.out.row17 R4h.out (by have := SA.out; omega) (by decide) (by decide) (by decide) (by decide) ST⟩, F8.out.step (Frt.row17 V6 (w.heap.size + 1) ST) (fun g hg e => by omega)⟩
end
end Go.Proofs.YtcoojkpimbddlaaGreatDoor
