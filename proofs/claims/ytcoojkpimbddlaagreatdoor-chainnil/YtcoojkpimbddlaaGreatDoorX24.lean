/- block.Genesis, block.Whole and the law's awake: their contracts. The contract of the document's Meets; the law TargetMeets: its walk. The law's head; the document's Head, ID and Meets: their contracts. block.TakeHead: its contract. -/
import Derived.Test.YtcoojkpimbddlaaGreatDoorX23
import Derived.Test.YtcoojkpimbddlaaGreatDoorX15
namespace Go.Proofs.YtcoojkpimbddlaaGreatDoor
open Go.RowKit
open Go.Deep
set_option linter.unusedVariables false
section
set_option maxRecDepth 10000
set_option maxHeartbeats 4000000
theorem genesis_any (w : World) (hK : Kg w) : Calls Tryz.prog 45 #[] w fun e w' => ∃ ao cap y, e = .returned (.agg (bkA (gH.at 1) (.slice ao 1 cap))) ∧ LQ w' (.slice ao 1 cap) [y] ∧ y.m = gT ∧ Below w.heap.size w w' := by
  have b1 := (Below.refl w.heap.size w).alloc (Nat.le_refl _) (.cells (bkA zHd (.slice none 0 0)) 62)
  have R1 := hide (heap_alloc_last w (.cells (bkA zHd (.slice none 0 0)) 62))
  have B1 := hide b1
  have KS := hide (hK.next b1)
  have HC : Hid (∀ W v, LX KO W v [gO] → Calls Tryz.prog 74 #[.int .i64 0, .string gX, v] W fun e w' => ∃ ai ci ao co, e = .returned (.tuple #[.agg (gT.cells ai ci ao co), .int .i64 0]) ∧ LT w' gT ai ci ao co ∧ Below W.heap.size W w') := fun W v l => cbase_yes 0 gX v [gO] W (by omega) (by decide) l (by decide)
  have BO := hide bld_gO
  have GX : Hid (gX = ⟨#[98, 101, 100, 114, 111, 99, 107]⟩) := rfl
  clear b1 hK
  go_enter Tryz.func45, Tryz.ntmps45
  go_upto_region 1 with ((with_reducible refine at_list ?_); refine wpList_allocA ABk rfl rfl ?_)
  generalize w.alloc (.cells (bkA zHd (.slice none 0 0)) 62) = W0 at *
  have GZ : Hid (gO.cells.toArray.size = 2) := rfl
  have LO := hide (LX.of_row1 KO (heap_alloc_last W0 (.cells (KO.enc gO).toArray 156)))
  have D1 := hide ((Below.refl W0.heap.size W0).alloc (Nat.le_refl _) (.cells (KO.enc gO).toArray 156))
  have TZ : Hid (∀ ai ci ao co, (gT.cells ai ci ao co).size = 4) := fun _ _ _ _ => rfl
  have T1 := hide gT.one
  rw [← GX.out]
  go_upto_region 2 with (first | (go_at_call 74; refine (HC.out _ _ LO.out).mono ?_; rintro r W2 ⟨ai, ci, ao, co, rfl, lt, be⟩; have D2 := hide (below_next D1.out be); have LT2 := hide lt; clear be lt) | ((with_reducible refine at_list ?_); first | refine wpList_bldX rfl _ rfl #[(0, .int .u64 5000)] gO.cells.toArray (by simp only [List.map_toArray, List.map_cons, List.map_nil]; rfl) BO.out ?_ | refine Ek.wpBs1 KO rfl _ rfl gO rfl ?_ | refine wpList_allocA AT rfl rfl ?_ | refine wpList_store_newA AT rfl _ _ rfl _ rfl (gT.cells ai ci ao co) (TZ.out _ _ _ _) (T1.out _ _ _ _) rfl rfl ?_))
  have R2 := hide (heap_alloc_last W2 (.cells (gT.cells ai ci ao co) 152))
  have b3 := (Below.refl W2.heap.size W2).alloc (Nat.le_refl _) (.cells (gT.cells ai ci ao co) 152)
  have D3 := hide (below_next D2.out b3)
  have LT3 := hide (LT2.out.below b3)
  obtain ⟨X, hX⟩ : ∃ X : Tq, X = ⟨gT, ai, ci, ao, co⟩ := ⟨_, rfl⟩
  have XM : Hid (X.m = gT) := by show X.m = gT; rw [hX]
  have XA : gT.cells ai ci ao co = X.arr := by rw [hX]; rfl
  have XT : Hid (LT (W2.alloc (.cells (gT.cells ai ci ao co) 152)) X.m X.ai X.ci X.ao X.co) := by rw [hX]; exact LT3.out
  clear hX
  generalize gT.cells ai ci ao co = CX at *
  subst XA
  clear b3 LT2 LT3 D1 D2 LO HC BO T1 TZ GZ
  generalize W2.alloc (.cells X.arr 152) = W3 at *
  generalize W2.heap.size = g1 at *
  have b4 := (Below.refl W3.heap.size W3).alloc (Nat.le_refl _) (.cells (KT.enc X).toArray 152)
  have D4 := hide (below_next D3.out b4)
  have LQ4 : Hid (LQ (W3.alloc (.cells (KT.enc X).toArray 152)) (.slice (some ⟨W3.heap.size, 0, none⟩) 1 1) [X]) := ⟨LX.of_row1 KT (heap_alloc_last W3 _), fun y hy => by
    rw [List.mem_singleton] at hy
    subst hy
    exact ⟨XT.out.below b4, by rw [XM.out]; exact gT_fit⟩⟩
  have HB := hide (fun W v l q => gbuild X XM.out v W l q)
  have XZ : Hid (X.arr.size = 4) := rfl
  have NW : Hid (w.heap.size < W0.heap.size) := lt_heap R1.out
  clear b4
  go_upto_region 3 with (first | (go_at_call 107; refine (HB.out _ _ LQ4.out (KS.out.next D4.out)).mono ?_; rintro r W5 ⟨ao2, cap, y, rfl, lq, ym, be⟩; have D5 := hide (below_next D4.out be); have LQ5 := hide lq; have YM := hide ym; have BZ := hide (bkA_size (gH.at 1) (.slice ao2 1 cap)); have BA := hide (bkA_all (gH.at 1) ao2 1 cap); have AG := hide (Nat.le_trans NW.out D4.out.size); clear be lq ym) | ((with_reducible refine at_list ?_); first | refine wpList_buildA A25 rfl rfl ?_ | refine wpList_loadS AT _ rfl g1 rfl X.arr XZ.out 152 R2.out (by rfl) ?_ | refine Ek.wpBs1 KT rfl _ rfl X rfl ?_ | refine wpList_allocA ABk rfl rfl ?_ | refine wpList_store_newA ABk rfl _ _ rfl _ rfl (bkA (gH.at 1) (.slice ao2 1 cap)) BZ.out BA.out rfl rfl ?_))
  have R5 := hide (heap_alloc_last W5 (.cells (bkA (gH.at 1) (.slice ao2 1 cap)) 62))
  have b6 := (Below.refl W5.heap.size W5).alloc (Nat.le_refl _) (.cells (bkA (gH.at 1) (.slice ao2 1 cap)) 62)
  have D6 := hide (below_next D5.out b6)
  have R6 := hide ((D6.out.block _ (lt_heap R1.out)).trans R1.out)
  have LQ6 : Hid (LQ ((W5.alloc (.cells (bkA (gH.at 1) (.slice ao2 1 cap)) 62)).setRow w.heap.size (bkA (gH.at 1) (.slice ao2 1 cap))) (.slice ao2 1 cap) [y]) := LQ5.out _ (fun g h1 h2 => (setRow_other _ _ _ _ (by have := AG.out; omega)).trans (b6.block g h2))
  clear b6 LQ5
  generalize W5.alloc (.cells (bkA (gH.at 1) (.slice ao2 1 cap)) 62) = W6 at *
  generalize W5.heap.size = g3 at *
  generalize hBK : bkA (gH.at 1) (.slice ao2 1 cap) = BK at *
  have HBK := hide hBK
  clear hBK
  go_wp2_with ((with_reducible refine at_list ?_); first | refine wpList_loadS ABk _ rfl g3 rfl BK BZ.out 62 R5.out (by rfl) ?_ | refine wpList_storeA ABk rfl _ _ rfl w.heap.size BK BZ.out BA.out rfl rfl (bkA zHd (.slice none 0 0)) (bkA_size _ _) 62 R6.out ?_)
  exact bodyPost_ret (v := .agg BK) (resA ABk Tryz.results45 _ _ w.heap.size 62 _ BZ.out rfl (setRow_heap _ _ _ _ _ _ R6.out)) rfl ⟨ao2, cap, y, by rw [HBK.out], LQ6.out, YM.out, below_setRow (below_next B1.out D6.out) (Nat.le_refl _) _⟩
def whB (h : Hd) (L : List Tq) : Bool := decide (0 < L.length) && ((rtL (idsL L) == h.root) && !muL (idsL L))
theorem whole_any (h : Hd) (v : Value) (L : List Tq) (w : World) (hL : LQ w v L) (hn : L.length < 4398046511104) (hK : Kg w) : Calls Tryz.prog 103 #[.agg (bkA h v)] w fun e w' => e = .returned (.bool (whB h L)) ∧ Below w.heap.size w w' := by
  obtain ⟨ao, cap, rfl⟩ := hL.l.form
  have b1 := (Below.refl w.heap.size w).alloc (Nat.le_refl _) (.cells (bkA h (.slice ao L.length cap)) 62)
  have R1 := hide (heap_alloc_last w (.cells (bkA h (.slice ao L.length cap)) 62))
  have B1 := hide b1
  have HL := hide (hL.below b1)
  have KS := hide (hK.next b1)
  have HR := hide (fun W l q => broot_any (.slice ao L.length cap) L W l hn q)
  have RH : Hid (∀ W : World, W.heap[w.heap.size]? = some (.cells (bkA h (.slice ao L.length cap)) 62 (0, 0)) → W.rangeAt w.heap.size 33 (cellsL h.root) ∧ W.cell? ⟨w.heap.size, 68, none⟩ = some (.slice ao L.length cap)) := fun W e => ⟨by have := h.rootR (bkA_head e); rwa [Nat.zero_add] at this, bkA_txs e⟩
  have c1 := (RH.out _ R1.out).2
  have RL := hide (rtL_len (idsL_32 L))
  have HL2 := hide h.hr
  have EQ : Hid (∀ W, (Op.equalIn 10000 46 (.agg (hc (rtL (idsL L)))) (.agg (hc h.root))).run Tryz.prog W = .ok (rtL (idsL L) == h.root) W) := fun W => eqC_bytes (rtL (idsL L)) h.root 32 (rtL_len (idsL_32 L)) h.hr 46 Tryz.underlying46 9998 W
  have HG : Tryz.prog.eqGuardType Tryz.prog.depth 46 = false := by kernel_rfl
  unfold whB
  clear b1 hL hK
  generalize rtL (idsL L) = RT at *
  generalize muL (idsL L) = MU at *
  generalize h.root = HRT at *
  generalize hE : (RT == HRT) = E at *
  clear hE
  generalize bkA h (.slice ao L.length cap) = C at *
  go_enter Tryz.func103, Tryz.ntmps103
  go_upto_region 1 with ((with_reducible refine at_list ?_); refine wpList_boxA rfl _ rfl C rfl ?_)
  generalize w.alloc (.cells C 62) = W0 at *
  go_upto_region 2 with (first | (go_at_call 75; refine (HR.out _ HL.out KS.out).mono ?_; rintro r W1 ⟨rfl, be⟩; have D1 := hide be; clear be) | ((with_reducible refine at_list ?_); first | refine wpList_allocA A25 rfl rfl ?_ | refine wpList_store_newA A25 rfl _ _ rfl _ rfl (hc RT) (by rw [hc_size, RL.out]) (hc_one _) rfl rfl ?_))
  have D2 := hide (below_next D1.out ((Below.refl W1.heap.size W1).alloc (Nat.le_refl _) (.cells (hc RT) 46)))
  have R3 := hide (heap_alloc_last W1 (.cells (hc RT) 46))
  clear c1 D1
  generalize W1.alloc (.cells (hc RT) 46) = W2 at *
  generalize W1.heap.size = g3 at *
  obtain ⟨rr, c2⟩ := RH.out _ ((D2.out.block _ (lt_heap R1.out)).trans R1.out)
  have RR := hide rr
  have RZ : Hid ((hc RT).size = 32) := by show _ = _; rw [hc_size, RL.out]
  clear rr
  by_cases h0 : 0 < L.length
  · have q1 : decide ((L.length : Int) > 0) = true := decide_eq_true (by omega)
    have q2 : decide (0 < L.length) = true := decide_eq_true h0
    have H0 := hide h0
    clear hn
    cases E <;> cases MU
    all_goals
      go_wp2_with ((with_reducible refine at_list ?_); first | refine wpList_loadS A25 _ rfl g3 rfl (hc RT) RZ.out 46 R3.out (by rfl) ?_ | refine wpLoadH25 _ rfl w.heap.size 33 rfl HRT HL2.out RR.out (by rfl) ?_ | refine wpList_eql 46 _ _ _ rfl (hc RT) (hc HRT) rfl rfl (by rfl) HG _ EQ.out ?_)
      go_ret
      exact ⟨by first | rfl | (rw [decide_eq_true H0.out]; rfl), below_next B1.out D2.out⟩
  · have q1 : decide ((L.length : Int) > 0) = false := decide_eq_false (by omega)
    have q2 : decide (0 < L.length) = false := decide_eq_false h0
    have H0 := hide h0
    clear hn
    go_wp2
    go_ret
    exact ⟨by first | rfl | (rw [decide_eq_false H0.out]; rfl), below_next B1.out D2.out⟩
end
end Go.Proofs.YtcoojkpimbddlaaGreatDoor
namespace Go.Proofs.YtcoojkpimbddlaaGreatDoor
open Go.RowKit
open Go.Deep
section
set_option maxRecDepth 10000
set_option maxHeartbeats 2000000
end
end Go.Proofs.YtcoojkpimbddlaaGreatDoor
namespace Go.Proofs.YtcoojkpimbddlaaGreatDoor
open Go.RowKit
open Go.Deep
set_option linter.unusedVariables false
section
set_option maxRecDepth 10000
set_option maxHeartbeats 4000000
end
theorem Hd.setL (h : Hd) (j : Nat) (hj : j < 3) (v : Value) : h.cells.set (65 + j) v = .int .u32 (h.ver.toNat : Int) :: (cellsL h.prev ++ (cellsL h.root ++ [Value.int .u32 (h.time.toNat : Int), .int .u32 (h.bits.toNat : Int), .int .u32 (h.nonce.toNat : Int)].set j v)) := by
  have hl : (cellsL h.prev).length = 32 := by rw [cellsL_len, h.hp]
  have hm : (cellsL h.root).length = 32 := by rw [cellsL_len, h.hr]
  rw [Hd.cells, show 65 + j = (64 + j) + 1 by omega, List.set_cons_succ, List.set_append_right _ _ (by omega), hl, List.set_append_right _ _ (by omega), hm, show 64 + j - 32 - 32 = j by omega]
theorem Hd.setT (h : Hd) (n : UInt32) : h.cells.toArray.setIfInBounds 65 (.int .u32 (n.toNat : Int)) = ({ h with time := n } : Hd).cells.toArray := by
  rw [List.setIfInBounds_toArray, h.setL 0 (by omega)]
  rfl
theorem Hd.there {W : World} {g : Nat} {t : TypeId} (h : Hd) (e : W.heap[g]? = some (.cells h.cells.toArray t (0, 0))) (o n : Nat) (hn : o + n ≤ 68) : W.there g o n := fun j hj => by
  refine ⟨?_, frozen_of_row W g _ _ _ e⟩
  rw [cell_of_row _ _ _ _ _ _ e, Array.getElem?_eq_getElem (by rw [h.size]; omega)]
  rfl
structure Tkh (w W : World) (g4 g6 gr : Nat) (s : ByteArray) (p e : Int) (h : Hd) : Prop where
  r4 : W.heap[g4]? = some (.cells zHd.cells.toArray 48 (0, 0))
  r6 : W.heap[g6]? = some (.cells h.cells.toArray 48 (0, 0))
  st : Rst W gr s p e
  bel : Below w.heap.size w W
  n46 : g4 ≠ g6
  n4r : g4 ≠ gr
  n6r : g6 ≠ gr
  l4 : w.heap.size ≤ g4
  l6 : w.heap.size ≤ g6
  lr : w.heap.size ≤ gr
  p0 : 0 ≤ p
  p1 : p ≤ s.size
section
variable {w W W' : World} {g4 g6 gr : Nat} {s : ByteArray} {p e : Int} {h : Hd}
theorem Tkh.step (t : Tkh w W g4 g6 gr s p e h) (n : Int) (q : Rst W' gr s (rtake s p e n).1 (rtake s p e n).2.1) (f : Rfr gr W W') : Tkh w W' g4 g6 gr s (rtake s p e n).1 (rtake s p e n).2.1 h :=
  ⟨(f.block _ (lt_heap t.r4) t.n4r).trans t.r4, (f.block _ (lt_heap t.r6) t.n6r).trans t.r6, q, t.bel.trans (f.to_below t.lr t.bel.size), t.n46, t.n4r, t.n6r, t.l4, t.l6, t.lr, (rtake_inv s p e n t.p0 t.p1).1, (rtake_inv s p e n t.p0 t.p1).2⟩
theorem Tkh.put (t : Tkh w W g4 g6 gr s p e h) (f : Rfr g6 W W') (k : Hd) (r : W'.heap[g6]? = some (.cells k.cells.toArray 48 (0, 0))) : Tkh w W' g4 g6 gr s p e k :=
  ⟨(f.block _ (lt_heap t.r4) t.n46).trans t.r4, r, (f.block _ t.st.lt (Ne.symm t.n6r)).trans t.st, t.bel.trans (f.to_below t.l6 t.bel.size), t.n46, t.n4r, t.n6r, t.l4, t.l6, t.lr, t.p0, t.p1⟩
end
/-! ### the six parts -/
def R1 (T : ByteArray) : Int × Int × ByteArray := rtake T 0 0 4
def R2 (T : ByteArray) : Int × Int × ByteArray := rtake T (R1 T).1 (R1 T).2.1 32
def R3 (T : ByteArray) : Int × Int × ByteArray := rtake T (R2 T).1 (R2 T).2.1 32
def R4 (T : ByteArray) : Int × Int × ByteArray := rtake T (R3 T).1 (R3 T).2.1 4
def R5 (T : ByteArray) : Int × Int × ByteArray := rtake T (R4 T).1 (R4 T).2.1 4
def R6 (T : ByteArray) : Int × Int × ByteArray := rtake T (R5 T).1 (R5 T).2.1 4
section
variable {w W : World} {g4 g6 gr : Nat} {s : ByteArray} {p e : Int} {h : Hd}
theorem Tkh.at (t : Tkh w W g4 g6 gr s p e h) (i : Nat) (hi : i < 68) : ∃ v, W.cell? ⟨g6, i, none⟩ = some v := by
  have := (h.there t.r6 i 1 (by omega) 0 (by omega)).1
  exact Option.isSome_iff_exists.1 this
theorem Tkh.fz (t : Tkh w W g4 g6 gr s p e h) (i : Nat) : W.frozen? ⟨g6, i, none⟩ = false := frozen_of_row W g6 i _ _ t.r6
end
section
set_option maxRecDepth 10000
set_option maxHeartbeats 4000000
end
end Go.Proofs.YtcoojkpimbddlaaGreatDoor
