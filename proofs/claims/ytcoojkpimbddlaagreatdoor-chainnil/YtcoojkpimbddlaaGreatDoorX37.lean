/- Connect of a block of one coinbase to a set without coins; which blocks stay as they are: its contract. A chain in memory: its own block, its tree, its coins, its two maps; which of them an act may write. A tree: single cells of a node and of the tree's own block are written. -/
import Derived.Test.YtcoojkpimbddlaaGreatDoorX36
import Derived.Test.YtcoojkpimbddlaaGreatDoorX30
namespace Go.Proofs.YtcoojkpimbddlaaGreatDoor
open Go.RowKit
open Go.Deep
open Go.Maps
set_option linter.unusedVariables false
set_option linter.unusedSimpArgs false
theorem Frt.step {S S' : Nat → Prop} {w w0 wr : World} (a : Frt S w w0) (b : Frt S' w0 wr) (h : ∀ g, g < w.heap.size → S' g → S g) : Frt S w wr :=
  ⟨b.os.trans a.os, b.tape.trans a.tape, b.output.trans a.output, Nat.le_trans a.size b.size, fun k hk hn => (b.block k (Nat.lt_of_lt_of_le hk a.size) fun e => hn (h k hk e)).trans (a.block k hk hn)⟩
theorem Frt.of_rfr {S : Nat → Prop} {g : Nat} {w w' : World} (r : Rfr g w w') (hg : S g) : Frt S w w' :=
  ⟨r.os, r.tape, r.output, r.size, fun k hk hn => r.block k hk fun e => hn (by rw [e]; exact hg)⟩
def S5 (gc bm bc : Nat) : Nat → Prop := fun g => g = gc ∨ g = bm ∨ g = bc
section
set_option maxRecDepth 10000
set_option maxHeartbeats 1000000
theorem connect_fr {A w : World} {gc bm bc : Nat} {h : Hd} {k : Nat} (cs : Cst A w gc bm bc 0 0 h.prev (k : Int) (.map []) (.map [])) (hk : k < 2147483647) (v : Value) (x : Tq) (hL : LQ w v [x]) (o : Tu) (ok : Ok2 h x (k + 1) o) (hA : Kg A) :
    Calls Tryz.prog 29 #[.pointer (some ⟨gc, 0, none⟩), .agg (bkA h v), .int .i64 ((k : Int) + 1)] w fun e w' => e = .returned (.tuple #[.agg #[.slice none 0 0], .int .i64 0]) ∧ Cst A w' gc bm bc 1 1 h.id ((k : Int) + 1) ((DataW.map []).put (.string (⟨x.m.idT, 0, ok.l⟩ : Tp).keyB) (⟨o.val, o.lock, (k : Int) + 1, true⟩ : Cn).dat) ((DataW.map []).put (.string x.m.idT) (.lit (.int .i64 1))) ∧ Frt (S5 gc bm bc) w w' := by
  have hK : Kg w := hA.next cs.bel
  have KA := hide hA
  obtain ⟨ao, cap, rfl⟩ := hL.l.form
  rw [show [x].length = 1 from rfl] at *
  have r1 := heap_alloc_last w (.cells (bkA h (.slice ao 1 cap)) 62)
  have b1 := (Below.refl w.heap.size w).alloc (Nat.le_refl _) (.cells (bkA h (.slice ao 1 cap)) 62)
  have s1 : (w.alloc (.cells (bkA h (.slice ao 1 cap)) 62)).heap.size = w.heap.size + 1 := by simp
  have b2 := b1.alloc (by rw [s1]; omega) (.cells #[.slice none 0 0] 91)
  have R1 := hide ((Below.heap_alloc _ (.cells #[.slice none 0 0] 91) _ (lt_heap r1)).trans r1)
  have R2 := hide (heap_alloc_last (w.alloc (.cells (bkA h (.slice ao 1 cap)) 62)) (.cells #[.slice none 0 0] 91))
  rw [s1] at R2
  have HPl := hide (fun W (c : Cst A W gc bm bc 0 0 h.prev (k : Int) (.map []) (.map [])) l q => play_one c hk (.slice ao 1 cap) x l o ok q rfl)
  have F0 := hide (And.intro (hL.below b2) (And.intro (cs.next b2) (hK.next b2)))
  have LS := hide (show gc < w.heap.size ∧ bm < w.heap.size ∧ bc < w.heap.size ∧ A.heap.size ≤ w.heap.size from ⟨lt_heap cs.row, cs.mp.lt, cs.ct.lt, cs.bel.size⟩)
  have BZ : Hid ((bkA h (.slice ao 1 cap)).size = 69) := bkA_size _ _
  have RH : Hid (∀ W : World, W.heap[w.heap.size]? = some (.cells (bkA h (.slice ao 1 cap)) 62 (0, 0)) → W.rangeAt w.heap.size 0 h.cells) := fun W e => bkA_head e
  have HI := hide (fun W q => hid_any h W q)
  have BB2 := hide b2
  clear b1 b2 r1 hL hK hA cs
  have IL := hide (Hd.id_len h)
  generalize h.id = HID at *
  generalize hPT : (⟨x.m.idT, 0, ok.l⟩ : Tp) = PT at *
  generalize hCO : (⟨o.val, o.lock, (k : Int) + 1, true⟩ : Cn) = CO at *
  generalize bkA h (.slice ao 1 cap) = C at *
  go_enter Tryz.func29, Tryz.ntmps29
  go_upto_region 1 with ((with_reducible refine at_list ?_); first | refine wpList_boxA rfl _ rfl C rfl ?_ | refine wpList_allocA AUn rfl rfl ?_)
  try rw [s1]
  clear s1
  generalize (w.alloc (.cells C 62)).alloc (.cells #[.slice none 0 0] 91) = W0 at *
  go_upto_region 4 with (first | (go_at_call 95; refine (HPl.out _ F0.out.2.1 F0.out.1 F0.out.2.2).mono ?_; rintro e W1 ⟨gd, ga, gb, rfl, ds⟩; have D1 := hide ds; clear ds) | ((with_reducible refine at_list ?_); refine wpList_loadS ABk _ rfl w.heap.size rfl C BZ.out 62 R1.out (by rfl) ?_))
  have D1c := hide (F0.out.2.1.next D1.out.bel)
  have q1 := hide ((D1.out.bel.block _ (lt_heap R1.out)).trans R1.out)
  have q2 := hide ((D1.out.bel.block _ (lt_heap R2.out)).trans R2.out)
  have ZL := hide (show w.heap.size + 1 < W0.heap.size from lt_heap R2.out)
  clear F0 HPl BZ R1 R2
  have c3 := D1.out.cells.2.2.2.1
  have OM := hide D1.out.mp
  have OH := hide (fun kl => one_has (p := .string PT.keyB) (d := (⟨CO, true⟩ : Chg).dat) (by simp [WideAt.IsKeyLit]) kl)
  have OA := hide (fun z => atKey_put_same (D := DataW.map []) (k := .string PT.keyB) ⟨_, rfl⟩ (by simp [WideAt.IsKeyLit]) (⟨CO, true⟩ : Chg).dat z)
  generalize (DataW.map []).put (.string PT.keyB) (⟨CO, true⟩ : Chg).dat = DD at *
  go_upto_region 5 with (at_range; refine wpList_range_own _ rfl _ 196 rfl 160 202 lawP Tryz.underlying196 chE ga 1 DD rfl OM.out ?_; intro w0 hrg0 hg0 hs0)
  go_frame
  have RG0 := hide hrg0
  have G1 := hide (show W0.heap.size ≤ W1.heap.size from D1.out.bel.size)
  have LD := hide (show W0.heap.size ≤ gd ∧ gd < W1.heap.size ∧ W0.heap.size ≤ ga ∧ ga < W1.heap.size ∧ gd ≠ ga from ⟨D1.out.bg, lt_heap D1.out.row, D1.out.b1, D1.out.mp.lt, D1.out.n1⟩)
  have B0 : Below W1.heap.size W1 w0 := ⟨hg0.os, hg0.tape, hg0.output, hg0.size, fun k hk => hg0.block k hk (by simp)⟩
  have CS0 := hide (D1c.out.next B0)
  have HD := hide ((B0.block _ (lt_heap D1.out.row)).trans D1.out.row)
  have q3 := hide ((B0.block _ (lt_heap q1.out)).trans q1.out)
  have q4 := hide ((B0.block _ (lt_heap q2.out)).trans q2.out)
  have FB : Hid (∀ W, Frt (fun g => g = bm ∨ g = bc ∨ g = W1.heap.size) w0 W → W.heap[w.heap.size]? = some (.cells C 62 (0, 0)) ∧ W.heap[w.heap.size + 1]? = some (.cells #[.slice none 0 0] 91 (0, 0)) ∧ W.heap[gd]? = some (.cells (drA gc ((k : Int) + 1) h.time ga gb) 200 (0, 0)) ∧ W.heap[ga]? = w0.heap[ga]?) := fun W f => by
    have l1 := LS.out
    have l2 := ZL.out
    have l3 := G1.out
    have l4 := LD.out
    exact ⟨(f.block _ (lt_heap q3.out) (by intro c; omega)).trans q3.out, (f.block _ (lt_heap q4.out) (by intro c; omega)).trans q4.out, (f.block _ (lt_heap HD.out) (by intro c; omega)).trans HD.out, f.block _ (by omega) (by intro c; omega)⟩
  have RL := hide (show gc < W1.heap.size ∧ bm < W1.heap.size ∧ bc < W1.heap.size ∧ A.heap.size ≤ W1.heap.size ∧ ga < W1.heap.size ∧ ga ≠ bm ∧ ga ≠ bc ∧ W1.heap.size < w0.heap.size by
    have l1 := LS.out
    have l2 := ZL.out
    have l3 := G1.out
    have l4 := LD.out
    omega)
  have G0 := hide (below_next BB2.out (below_next D1.out.bel B0))
  clear hrg0 hg0 hs0 c3 q1 q2 q3 q4 D1c D1 OM HD B0 BB2
  generalize W1.heap.size = r at *
  go_loopw [11] (fun _ wr => ∃ left cnt, Hid (wr.ranges Tryz.prog 160 chE ga r 1 DD left cnt) ∧ Hid (Frt (fun g => g = bm ∨ g = bc ∨ g = r) w0 wr) ∧ ((left = Maps.has DD ∧ Hid (Cst A wr gc bm bc 0 0 h.prev (k : Int) (.map []) (.map []))) ∨ ((∀ kl, left kl = false) ∧ Hid (Cst A wr gc bm bc 1 1 h.prev (k : Int) ((DataW.map []).put (.string PT.keyB) CO.dat) ((DataW.map []).put (.string PT.hash) (.lit (.int .i64 (0 + 1)))))))) (fun _ wr => wr.rangeLeft ga r)
  case atStart => exact ⟨_, _, RG0, Frt.refl _ _, .inl ⟨rfl, CS0⟩⟩
  case round =>
    clear RG0 CS0
    obtain ⟨left, cnt, RG, FF, hst⟩ := hrel
    rcases RG.out.next lawP 0 with ⟨h0, hl0, hrun⟩ | ⟨key, v, kl, y, w1, cnt1, hkey, hlk, hv, hat, hrun, hrg1, hlt, hg1, hs1, hen⟩
    · rcases hst with ⟨rfl, _⟩ | ⟨_, CF⟩
      · exact absurd ((OH.out _).2 rfl) (by rw [hl0]; simp)
      · clear RG OH OA h0 hl0
        have Q := hide (FB.out _ FF.out)
        have E0 := hide (Frt.step (Frt.of_below (S := S5 gc bm bc) G0.out) FF.out (fun g hg e => by
          have l5 := ZL.out
          have l3 := G1.out
          rcases e with e | e | e
          · exact .inr (.inl e)
          · exact .inr (.inr e)
          · omega))
        go_upto_region 10 with fail
        clear hrun
        have LL := hide (show w.heap.size + 1 ≠ gc ∧ gd ≠ gc ∧ A.heap.size ≤ w.heap.size + 1 ∧ w.heap.size + 1 ≠ bm ∧ w.heap.size + 1 ≠ bc by
          have l1 := LS.out
          have l3 := G1.out
          have l4 := LD.out
          have l5 := ZL.out
          omega)
        go_upto_region 11 with (first | (go_at_call 46; refine (HI.out _ (KA.out.next CF.out.bel)).mono ?_; rintro e W6 ⟨rfl, be⟩; have C6 := hide (CF.out.next be); have E6 := hide (E0.out.next be); have Q6 := hide (And.intro ((be.block _ (lt_heap Q.out.2.1)).trans Q.out.2.1) ((be.block _ (lt_heap Q.out.2.2.1)).trans Q.out.2.2.1)); have c5 : (W6.setCells gc 0 (hc HID).toList).cell? ⟨gc, 32, none⟩ = some (.int .i64 (k : Int)) := (coL_more IL.out (C6.out.setT HID IL.out).row).1; have f5 : (W6.setCells gc 0 (hc HID).toList).frozen? ⟨gc, 32, none⟩ = false := frozen_of_row _ gc 32 _ _ (C6.out.setT HID IL.out).row; clear be) | ((with_reducible refine at_list ?_); first | refine wpLoadHd _ rfl w.heap.size 0 rfl h (RH.out _ Q.out.1) (by rfl) ?_ | refine wpList_store_mid rfl 46 _ _ rfl gc 0 (hc HID) rfl rfl (by rw [hc_size, IL.out]; exact C6.out.there) (by rw [hc_size, IL.out]; kernel_rfl) (hc_one _) ?_))
        have C7 : Hid (Cst A ((W6.setCells gc 0 (hc HID).toList).setCell ⟨gc, 32, none⟩ (.int .i64 ((k : Int) + 1))) gc bm bc 1 1 HID ((k : Int) + 1) ((DataW.map []).put (.string PT.keyB) CO.dat) ((DataW.map []).put (.string PT.hash) (.lit (.int .i64 (0 + 1))))) := (C6.out.setT HID IL.out).setH _
        have E7 : Hid (Frt (S5 gc bm bc) w ((W6.setCells gc 0 (hc HID).toList).setCell ⟨gc, 32, none⟩ (.int .i64 ((k : Int) + 1)))) := (E6.out.trans' (Frt.of_rfr (Rfr.setCells gc (hc HID).toList 0 W6) (.inl rfl))).trans' (Frt.setCell (S := S5 gc bm bc) _ (p := ⟨gc, 32, none⟩) (.inl rfl) _)
        have QQ : ∀ i, i < W6.heap.size → i ≠ gc → ((W6.setCells gc 0 (hc HID).toList).setCell ⟨gc, 32, none⟩ (.int .i64 ((k : Int) + 1))).heap[i]? = W6.heap[i]? := fun i hi hne => (Below.heap_setCell _ _ _ _ (show i ≠ gc from hne)).trans ((Rfr.setCells gc (hc HID).toList 0 W6).block i hi hne)
        have Q7 := hide (And.intro ((QQ _ (lt_heap Q6.out.1) LL.out.1).trans Q6.out.1) ((QQ _ (lt_heap Q6.out.2) LL.out.2.1).trans Q6.out.2))
        clear c5 f5 QQ C6 Q6 CF Q
        generalize (W6.setCells gc 0 (hc HID).toList).setCell ⟨gc, 32, none⟩ (.int .i64 ((k : Int) + 1)) = W7 at *
        have c6 : W7.cell? ⟨gd, 5, none⟩ = some (.slice none 0 0) := by rw [cell_of_row _ _ _ _ _ _ Q7.out.2]; rfl
        have d6 : W7.cell? ⟨w.heap.size + 1, 0, none⟩ = some (.slice none 0 0) := by rw [cell_of_row _ _ _ _ _ _ Q7.out.1]; rfl
        have f6 := frozen_of_row W7 (w.heap.size + 1) 0 _ _ Q7.out.1
        go_wp2
        have r8 := heap_setCell_same W7 (w.heap.size + 1) 0 _ _ (.slice none 0 0) Q7.out.1
        have C8 := C7.out.fr (Frt.setCell (S := fun g => g = w.heap.size + 1) W7 (p := ⟨w.heap.size + 1, 0, none⟩) rfl (.slice none 0 0)) (fun g e => by
          subst e
          exact ⟨LL.out.2.2.1, LL.out.1, LL.out.2.2.2.1, LL.out.2.2.2.2⟩)
        have E8 := Frt.step E7.out (Frt.setCell (S := fun g => g = w.heap.size + 1) W7 (p := ⟨w.heap.size + 1, 0, none⟩) rfl (.slice none 0 0)) (fun g hg e => by omega)
        subst hPT
        subst hCO
        exact bodyPost_ret (v := .tuple #[.agg #[.slice none 0 0], .int .i64 0]) (resA2K AUn Tryz.results29 _ _ (w.heap.size + 1) 91 _ rfl rfl r8 _ rfl) rfl ⟨rfl, C8, E8⟩
    · rcases hst with ⟨rfl, C0⟩ | ⟨hno, _⟩
      · obtain rfl := (OH.out kl).1 hlk
        obtain rfl := lawP.inj hkey (keyP PT)
        obtain ⟨y1, y2⟩ := y
        have e1 := (hat (.agg [])).symm.trans (OA.out _)
        simp only at e1
        subst e1
        have ev := chE_eq hv
        subst ev
        have GS := Frt.of_grown (S := fun g => g = r) hg1 (by intro g e; cases e; rfl)
        have FW := hide (FF.out.trans' (GS.mono (S' := fun g => g = bm ∨ g = bc ∨ g = r) (by intro g e; exact .inr (.inr e))))
        have C1 := hide (C0.out.fr GS (fun g e => by
          subst e
          have := RL.out
          exact ⟨this.2.2.2.1, by omega, by omega, by omega⟩))
        have RR := hide hrg1
        have ML : Hid (cnt1 < wr.rangeLeft ga r) := by
          show _ < _
          rw [RG.out.left_eq]
          exact hlt
        have NO : Hid (∀ kl : Lit, (Maps.has DD kl && !kl.sameKey (.string PT.keyB)) = false) := fun kl => by
          cases e : Maps.has DD kl
          · rfl
          · rw [(OH.out kl).1 e]
            simp [Lit.sameKey]
        have LW1 := hide (show r < w1.heap.size by have := FW.out.size; have := RL.out; omega)
        clear GS RG C0 FF hrg1 hlk hkey hat hv hg1 hs1 hlt OH OA
        have PZ := hide (And.intro PT.size PT.all)
        have CHZ := hide (And.intro (show (⟨CO, true⟩ : Chg).cells.toArray.size = 5 from rfl) (⟨CO, true⟩ : Chg).all)
        have COZ : Hid (∀ W : World, W.heap[w1.heap.size + 1]? = some (.cells (⟨CO, true⟩ : Chg).cells.toArray 202 (0, 0)) → W.cell? ⟨w1.heap.size + 1, 4, none⟩ = some (.bool true) ∧ (Instr.loadAt 189 (.pointer (some ⟨w1.heap.size + 1, 0, none⟩))).run Tryz.prog W = .ok (.agg CO.cells.toArray) W) := fun W e => ⟨by rw [cell_of_row _ _ _ _ _ _ e]; rfl, run_loadAt_mid W _ 0 189 CO.cells _ (fun j u hu => by
          have := rowAt (⟨CO, true⟩ : Chg).cells e j u (by rw [Chg.cells, List.getElem?_append_left (List.getElem?_eq_some_iff.1 hu).1]; exact hu)
          exact this) Tryz.underlying189 rfl (by kernel_rfl)⟩
        have a1 := heap_alloc_last w1 (.cells zTp.cells.toArray 160)
        have p1 := (Below.refl w1.heap.size w1).alloc (Nat.le_refl _) (.cells zTp.cells.toArray 160)
        have z1 : (w1.alloc (.cells zTp.cells.toArray 160)).heap.size = w1.heap.size + 1 := by simp
        have p2 := p1.alloc (by rw [z1]; omega) (.cells zChg.cells.toArray 202)
        have A1 := hide ((Below.heap_alloc _ (.cells zChg.cells.toArray 202) _ (lt_heap a1)).trans a1)
        have A2 := hide (heap_alloc_last (w1.alloc (.cells zTp.cells.toArray 160)) (.cells zChg.cells.toArray 202))
        rw [z1] at A2
        have P2 := hide p2
        clear a1 p1 p2
        have ZP := hide (Tp.size zTp)
        have ZC : Hid (zChg.cells.toArray.size = 5) := rfl
        generalize hzp : zTp.cells.toArray = zp at *
        generalize hzc : zChg.cells.toArray = zc at *
        generalize hpp : PT.cells.toArray = pp at *
        have ecc : (⟨CO, true⟩ : Chg).cells.toArray = #[.int .u64 (CO.val.toNat : Int), .string CO.lock, .int .i64 CO.ht, .bool CO.cb, .bool true] := rfl
        rw [ecc] at hrun hen COZ CHZ
        clear ecc
        have HPP := hide hpp
        clear hpp
        have A3 : Hid ((((w1.alloc (.cells zp 160)).alloc (.cells zc 202)).setRow w1.heap.size pp).heap[w1.heap.size + 1]? = some (.cells zc 202 (0, 0))) := (setRow_other _ _ _ _ (by omega)).trans A2.out
        have c0c : (((w1.alloc (.cells zp 160)).alloc (.cells zc 202)).setRow w1.heap.size pp).cell? ⟨w1.heap.size + 1, 0, none⟩ = some (.int .u64 0) := by rw [cell_of_row _ _ _ _ _ _ A3.out, ← hzc]; rfl
        have f0c := frozen_of_row _ (w1.heap.size + 1) 0 _ _ A3.out
        have c1c : (((w1.alloc (.cells zp 160)).alloc (.cells zc 202)).setRow w1.heap.size pp).cell? ⟨w1.heap.size + 1, 1, none⟩ = some (.string ⟨#[]⟩) := by rw [cell_of_row _ _ _ _ _ _ A3.out, ← hzc]; rfl
        have f1c := frozen_of_row _ (w1.heap.size + 1) 1 _ _ A3.out
        have c2c : (((w1.alloc (.cells zp 160)).alloc (.cells zc 202)).setRow w1.heap.size pp).cell? ⟨w1.heap.size + 1, 2, none⟩ = some (.int .i64 0) := by rw [cell_of_row _ _ _ _ _ _ A3.out, ← hzc]; rfl
        have f2c := frozen_of_row _ (w1.heap.size + 1) 2 _ _ A3.out
        have c3c : (((w1.alloc (.cells zp 160)).alloc (.cells zc 202)).setRow w1.heap.size pp).cell? ⟨w1.heap.size + 1, 3, none⟩ = some (.bool false) := by rw [cell_of_row _ _ _ _ _ _ A3.out, ← hzc]; rfl
        have f3c := frozen_of_row _ (w1.heap.size + 1) 3 _ _ A3.out
        have c4c : (((w1.alloc (.cells zp 160)).alloc (.cells zc 202)).setRow w1.heap.size pp).cell? ⟨w1.heap.size + 1, 4, none⟩ = some (.bool false) := by rw [cell_of_row _ _ _ _ _ _ A3.out, ← hzc]; rfl
        have f4c := frozen_of_row _ (w1.heap.size + 1) 4 _ _ A3.out
        have A5 : Hid (((((((((w1.alloc (.cells zp 160)).alloc (.cells zc 202)).setRow w1.heap.size pp).setCell ⟨w1.heap.size + 1, 0, none⟩ (.int .u64 (CO.val.toNat : Int))).setCell ⟨w1.heap.size + 1, 1, none⟩ (.string CO.lock)).setCell ⟨w1.heap.size + 1, 2, none⟩ (.int .i64 CO.ht)).setCell ⟨w1.heap.size + 1, 3, none⟩ (.bool CO.cb)).setCell ⟨w1.heap.size + 1, 4, none⟩ (.bool true)).heap[w1.heap.size + 1]? = some (.cells #[.int .u64 (CO.val.toNat : Int), .string CO.lock, .int .i64 CO.ht, .bool CO.cb, .bool true] 202 (0, 0))) := by
          have e0 := heap_setCell_same _ (w1.heap.size + 1) 0 _ _ (.int .u64 (CO.val.toNat : Int)) A3.out
          have e1 := heap_setCell_same _ (w1.heap.size + 1) 1 _ _ (.string CO.lock) e0
          have e2 := heap_setCell_same _ (w1.heap.size + 1) 2 _ _ (.int .i64 CO.ht) e1
          have e3 := heap_setCell_same _ (w1.heap.size + 1) 3 _ _ (.bool CO.cb) e2
          have e4 := heap_setCell_same _ (w1.heap.size + 1) 4 _ _ (.bool true) e3
          rw [← hzc, zChg_set] at e4
          rw [← hzc]
          exact e4
        have A4 : Hid (((((((((w1.alloc (.cells zp 160)).alloc (.cells zc 202)).setRow w1.heap.size pp).setCell ⟨w1.heap.size + 1, 0, none⟩ (.int .u64 (CO.val.toNat : Int))).setCell ⟨w1.heap.size + 1, 1, none⟩ (.string CO.lock)).setCell ⟨w1.heap.size + 1, 2, none⟩ (.int .i64 CO.ht)).setCell ⟨w1.heap.size + 1, 3, none⟩ (.bool CO.cb)).setCell ⟨w1.heap.size + 1, 4, none⟩ (.bool true)).heap[w1.heap.size]? = some (.cells pp 160 (0, 0))) := by
          show _ = _
          rw [Below.heap_setCell _ _ _ _ (by show w1.heap.size ≠ w1.heap.size + 1; omega), Below.heap_setCell _ _ _ _ (by show w1.heap.size ≠ w1.heap.size + 1; omega), Below.heap_setCell _ _ _ _ (by show w1.heap.size ≠ w1.heap.size + 1; omega), Below.heap_setCell _ _ _ _ (by show w1.heap.size ≠ w1.heap.size + 1; omega), Below.heap_setCell _ _ _ _ (by show w1.heap.size ≠ w1.heap.size + 1; omega)]
          exact setRow_heap _ _ _ _ _ _ A1.out
        have P5 : Hid (Below w1.heap.size w1 ((((((((w1.alloc (.cells zp 160)).alloc (.cells zc 202)).setRow w1.heap.size pp).setCell ⟨w1.heap.size + 1, 0, none⟩ (.int .u64 (CO.val.toNat : Int))).setCell ⟨w1.heap.size + 1, 1, none⟩ (.string CO.lock)).setCell ⟨w1.heap.size + 1, 2, none⟩ (.int .i64 CO.ht)).setCell ⟨w1.heap.size + 1, 3, none⟩ (.bool CO.cb)).setCell ⟨w1.heap.size + 1, 4, none⟩ (.bool true))) := by
          have q := below_setRow P2.out (Nat.le_refl w1.heap.size) pp
          exact ((((q.setCell (p := ⟨w1.heap.size + 1, 0, none⟩) (by show _ ≤ w1.heap.size + 1; omega) _).setCell (p := ⟨w1.heap.size + 1, 1, none⟩) (by show _ ≤ w1.heap.size + 1; omega) _).setCell (p := ⟨w1.heap.size + 1, 2, none⟩) (by show _ ≤ w1.heap.size + 1; omega) _).setCell (p := ⟨w1.heap.size + 1, 3, none⟩) (by show _ ≤ w1.heap.size + 1; omega) _).setCell (p := ⟨w1.heap.size + 1, 4, none⟩) (by show _ ≤ w1.heap.size + 1; omega) _
        go_upto_region 7 with ((with_reducible refine at_list ?_); first | (refine wpList_allocA APt rfl rfl ?_; try rw [hzp]) | (refine wpList_allocA ACg rfl rfl ?_; try rw [hzc]) | refine wpList_storeA APt rfl _ _ rfl w1.heap.size pp PZ.out.1 PZ.out.2 rfl rfl zp ZP.out 160 A1.out ?_)
        try rw [z1]
        clear hrun hen A1 A2 A3 P2 z1 hzp ZP ZC
        clear c0c f0c c1c f1c c2c f2c c3c f3c c4c f4c
        generalize ((((((((w1.alloc (.cells zp 160)).alloc (.cells zc 202)).setRow w1.heap.size pp).setCell ⟨w1.heap.size + 1, 0, none⟩ (.int .u64 (CO.val.toNat : Int))).setCell ⟨w1.heap.size + 1, 1, none⟩ (.string CO.lock)).setCell ⟨w1.heap.size + 1, 2, none⟩ (.int .i64 CO.ht)).setCell ⟨w1.heap.size + 1, 3, none⟩ (.bool CO.cb)).setCell ⟨w1.heap.size + 1, 4, none⟩ (.bool true)) = W5 at *
        have C5 := hide (C1.out.next P5.out)
        have HT5 : Hid (∀ W, Cst A W gc bm bc 0 0 h.prev (k : Int) (.map []) (.map []) → Calls Tryz.prog 96 #[.pointer (some ⟨gc, 0, none⟩), .agg pp] W fun e w' => e = .returned (.tuple #[]) ∧ Below W.heap.size W w') := fun W c => by
          rw [← HPP.out]
          exact take_no c PT rfl rfl
        have HU5 : Hid (∀ W, Cst A W gc bm bc 0 0 h.prev (k : Int) (.map []) (.map []) → Calls Tryz.prog 97 #[.pointer (some ⟨gc, 0, none⟩), .agg pp, .agg CO.cells.toArray] W fun e w' => e = .returned (.tuple #[]) ∧ Cst A w' gc bm bc 1 1 h.prev (k : Int) ((DataW.map []).put (.string PT.keyB) CO.dat) ((DataW.map []).put (.string PT.hash) (.lit (.int .i64 (0 + 1)))) ∧ Frt (fun g => g = bm ∨ g = bc) W w') := fun W c => by
          rw [← HPP.out]
          exact put_any c (by omega) (by omega) PT CO 0 (by omega) (by omega) rfl
        go_upto_region 8 with (first | (go_at_call 96; refine (HT5.out _ C5.out).mono ?_; rintro e W6 ⟨rfl, be⟩; have B6 := hide be; clear be) | ((with_reducible refine at_list ?_); refine wpList_loadS APt _ rfl w1.heap.size rfl pp PZ.out.1 160 A4.out (by rfl) ?_))
        have A6 := hide ((B6.out.block _ (lt_heap A4.out)).trans A4.out)
        have A7 := hide ((B6.out.block _ (lt_heap A5.out)).trans A5.out)
        have C6 := hide (C5.out.next B6.out)
        have B7 := hide (below_next P5.out B6.out)
        have c8 := (COZ.out _ A7.out).1
        have l8 := hide (COZ.out _ A7.out).2
        clear HT5 C5 A4 A5 P5 B6 COZ
        go_upto_region 9 with fail
        clear c8
        go_wp2_with (first | (go_at_call 97; refine (HU5.out _ C6.out).mono ?_; rintro e W8 ⟨rfl, c8, f8⟩; have C8 := hide c8; have F8 := hide f8; clear c8 f8) | ((with_reducible refine at_list ?_); first | refine wpList_loadS APt _ rfl w1.heap.size rfl pp PZ.out.1 160 A6.out (by rfl) ?_ | refine wpLd16 _ rfl (.pointer (some ⟨w1.heap.size + 1, 0, none⟩)) (.agg CO.cells.toArray) rfl l8.out (by rfl) ?_))
        have RK : Hid (w1.heap.size ≤ W6.heap.size ∧ ga < w1.heap.size ∧ r < w1.heap.size) := ⟨B7.out.size, by have := RL.out; have := LW1.out; omega, LW1.out⟩
        have hb : ∀ i, i < w1.heap.size → i ≠ bm → i ≠ bc → W8.heap[i]? = w1.heap[i]? := fun i hi h1 h2 => (F8.out.block i (by have := RK.out; omega) (by intro c; omega)).trans (B7.out.block i hi)
        have R8 := hide (ranges_block RR.out (hb ga RK.out.2.1 RL.out.2.2.2.2.2.1 RL.out.2.2.2.2.2.2.1) (hb r RK.out.2.2 (by have := RL.out; omega) (by have := RL.out; omega)))
        have FF8 := hide (FW.out.trans' ((Frt.of_below B7.out).trans' (F8.out.mono (S' := fun g => g = bm ∨ g = bc ∨ g = r) (by intro g e; omega))))
        exact ⟨⟨_, _, R8, FF8, .inr ⟨NO.out, C8⟩⟩, by rw [R8.out.left_eq]; exact ML.out⟩
      · rw [hno] at hlk
        cases hlk
end
def chA (gt gc gb gu : Nat) : Array Value := #[.pointer (some ⟨gt, 0, none⟩), .pointer (some ⟨gc, 0, none⟩), .map (some gb), .map (some gu)]
def unR : Value → Option (DataW Unit × List MemPlace) := fun _ => some (.lit (.int .i64 0), [])
structure Chw (B W : World) (gch gt gm nn : Nat) (DT : DataW Unit) (ve : Value) (L : List Tno) (tu be bh gc bm bc n m : Nat) (tip : List UInt8) (ht : Int) (DC EC : DataW Unit) (R : Value → Option (DataW Unit × List MemPlace)) (gb nb : Nat) (DB : DataW Unit) (gu nu : Nat) (DU : DataW Unit) : Prop where
  row : W.heap[gch]? = some (.cells (chA gt gc gb gu) 208 (0, 0))
  t : Tm4 B W gt gm nn DT ve L tu be bh
  c : Cst B W gc bm bc n m tip ht DC EC
  b : W.ownsMap Tryz.prog 46 R gb nb DB
  u : W.ownsMap Tryz.prog 46 unR gu nu DU
  bg : B.heap.size ≤ gch
  bb : B.heap.size ≤ gb
  bu : B.heap.size ≤ gu
  n1 : gm ≠ bm ∧ gm ≠ bc ∧ gm ≠ gb ∧ gm ≠ gu
  n2 : gb ≠ bm ∧ gb ≠ bc ∧ gb ≠ gu
  n3 : gu ≠ bm ∧ gu ≠ bc
theorem ty17a : (208 : TypeId) ≠ 123 := by decide
theorem ty17b : (208 : TypeId) ≠ 120 := by decide
theorem ty17c : (208 : TypeId) ≠ 178 := by decide
theorem ty17d : (178 : TypeId) ≠ 123 := by decide
theorem ty17e : (178 : TypeId) ≠ 120 := by decide
theorem ne_ty {W : World} {g g' : Nat} {a b : Array Value} {t u : TypeId} {p q : Nat × Nat} (h : W.heap[g]? = some (.cells a t p)) (h' : W.heap[g']? = some (.cells b u q)) (n : t ≠ u) : g ≠ g' := by
  rintro rfl
  rw [h] at h'
  simp only [Option.some.injEq, Obj.cells.injEq] at h'
  exact n h'.2.1
theorem ne_map {W : World} {g g' m : Nat} {a : Array Value} {t k : TypeId} {p : Nat × Nat} {R : Value → Option (DataW Unit × List MemPlace)} {D : DataW Unit} (h : W.heap[g]? = some (.cells a t p)) (h' : W.ownsMap Tryz.prog k R g' m D) : g ≠ g' := by
  rintro rfl
  obtain ⟨es, clock, hb, _⟩ := h'
  rw [h] at hb
  cases hb
theorem OX.rowT {α : Type} {E : Ek α} {W : World} {v : Value} {L : List α} (h : OX E W v L) {g : Nat} (hg : v.ownBlock = some g) : ∃ c, W.heap[g]? = some (.cells c E.e (0, 0)) := by
  obtain ⟨hl, ⟨e, _⟩ | ⟨g', cap, cur, e, hb, hh, h1, h2, h3, h4⟩⟩ := h
  · subst e
    cases hg
  · subst e
    simp only [Value.ownBlock, Option.some.injEq] at hg
    subst hg
    exact ⟨cur, hh⟩
section
variable {B W W' : World} {gch gt gm nn : Nat} {DT : DataW Unit} {ve : Value} {L : List Tno} {tu be bh gc bm bc n m : Nat} {tip : List UInt8} {ht : Int} {DC EC : DataW Unit} {R : Value → Option (DataW Unit × List MemPlace)} {gb nb : Nat} {DB : DataW Unit} {gu nu : Nat} {DU : DataW Unit}
theorem Chw.bel (h : Chw B W gch gt gm nn DT ve L tu be bh gc bm bc n m tip ht DC EC R gb nb DB gu nu DU) : Below B.heap.size B W := h.t.bel
theorem Chw.next (h : Chw B W gch gt gm nn DT ve L tu be bh gc bm bc n m tip ht DC EC R gb nb DB gu nu DU) (b : Below W.heap.size W W') : Chw B W' gch gt gm nn DT ve L tu be bh gc bm bc n m tip ht DC EC R gb nb DB gu nu DU :=
  ⟨(b.block _ (lt_heap h.row)).trans h.row, h.t.next b, h.c.next b, own_block h.b (b.block _ h.b.lt), own_block h.u (b.block _ h.u.lt), h.bg, h.bb, h.bu, h.n1, h.n2, h.n3⟩
theorem Chw.tree (h : Chw B W gch gt gm nn DT ve L tu be bh gc bm bc n m tip ht DC EC R gb nb DB gu nu DU) {nn' : Nat} {DT' : DataW Unit} {ve' : Value} {L' : List Tno} {tu' be' bh' : Nat} (T : Tm4 B W' gt gm nn' DT' ve' L' tu' be' bh') (F : Frt (S4 gt gm ve) W W') : Chw B W' gch gt gm nn' DT' ve' L' tu' be' bh' gc bm bc n m tip ht DC EC R gb nb DB gu nu DU := by
  have S : ∀ g, S4 gt gm ve g → B.heap.size ≤ g ∧ g ≠ gch ∧ g ≠ gc ∧ g ≠ bm ∧ g ≠ bc ∧ g ≠ gb ∧ g ≠ gu := by
    intro g hg
    rcases hg with rfl | rfl | hg
    · exact ⟨h.t.bt, (ne_ty h.row h.t.row ty17a).symm, (ne_ty h.c.row h.t.row ty17d).symm, ne_map h.t.row h.c.mp, ne_map h.t.row h.c.ct, ne_map h.t.row h.b, ne_map h.t.row h.u⟩
    · exact ⟨h.t.bm, (ne_map h.row h.t.map).symm, (ne_map h.c.row h.t.map).symm, h.n1.1, h.n1.2.1, h.n1.2.2.1, h.n1.2.2.2⟩
    · obtain ⟨c, hc⟩ := h.t.own.rowT hg
      exact ⟨(h.t.be g hg).1, (ne_ty h.row hc ty17b).symm, (ne_ty h.c.row hc ty17e).symm, ne_map hc h.c.mp, ne_map hc h.c.ct, ne_map hc h.b, ne_map hc h.u⟩
  exact ⟨(F.block _ (lt_heap h.row) fun e => (S _ e).2.1 rfl).trans h.row, T, h.c.fr F (fun g e => ⟨(S g e).1, (S g e).2.2.1, (S g e).2.2.2.1, (S g e).2.2.2.2.1⟩), own_block h.b (F.block _ h.b.lt fun e => (S _ e).2.2.2.2.2.1 rfl), own_block h.u (F.block _ h.u.lt fun e => (S _ e).2.2.2.2.2.2 rfl), h.bg, h.bb, h.bu, h.n1, h.n2, h.n3⟩
theorem Chw.coins (h : Chw B W gch gt gm nn DT ve L tu be bh gc bm bc n m tip ht DC EC R gb nb DB gu nu DU) {n' m' : Nat} {tip' : List UInt8} {ht' : Int} {DC' EC' : DataW Unit} (T : Cst B W' gc bm bc n' m' tip' ht' DC' EC') (F : Frt (S5 gc bm bc) W W') : Chw B W' gch gt gm nn DT ve L tu be bh gc bm bc n' m' tip' ht' DC' EC' R gb nb DB gu nu DU := by
  have S : ∀ g, S5 gc bm bc g → B.heap.size ≤ g ∧ g ≠ gch ∧ g ≠ gt ∧ g ≠ gm ∧ g ≠ gb ∧ g ≠ gu ∧ ve.ownBlock ≠ some g := by
    intro g hg
    rcases hg with rfl | rfl | rfl
    · exact ⟨h.c.bg, (ne_ty h.row h.c.row ty17c).symm, ne_ty h.c.row h.t.row ty17d, ne_map h.c.row h.t.map, ne_map h.c.row h.b, ne_map h.c.row h.u, fun e => by
        obtain ⟨c, hc⟩ := h.t.own.rowT e
        exact ne_ty h.c.row hc ty17e rfl⟩
    · exact ⟨h.c.b1, (ne_map h.row h.c.mp).symm, (ne_map h.t.row h.c.mp).symm, h.n1.1.symm, h.n2.1.symm, h.n3.1.symm, fun e => by
        obtain ⟨c, hc⟩ := h.t.own.rowT e
        exact ne_map hc h.c.mp rfl⟩
    · exact ⟨h.c.b2, (ne_map h.row h.c.ct).symm, (ne_map h.t.row h.c.ct).symm, h.n1.2.1.symm, h.n2.2.1.symm, h.n3.2.symm, fun e => by
        obtain ⟨c, hc⟩ := h.t.own.rowT e
        exact ne_map hc h.c.ct rfl⟩
  exact ⟨(F.block _ (lt_heap h.row) fun e => (S _ e).2.1 rfl).trans h.row, h.t.fr F (fun g e => ⟨(S g e).1, (S g e).2.2.1, (S g e).2.2.2.1, (S g e).2.2.2.2.2.2⟩), T, own_block h.b (F.block _ h.b.lt fun e => (S _ e).2.2.2.2.1 rfl), own_block h.u (F.block _ h.u.lt fun e => (S _ e).2.2.2.2.2.1 rfl), h.bg, h.bb, h.bu, h.n1, h.n2, h.n3⟩
theorem Chw.bod (h : Chw B W gch gt gm nn DT ve L tu be bh gc bm bc n m tip ht DC EC R gb nb DB gu nu DU) {R' : Value → Option (DataW Unit × List MemPlace)} {nb' : Nat} {DB' : DataW Unit} (o : W'.ownsMap Tryz.prog 46 R' gb nb' DB') (F : Frt (fun g => g = gb) W W') : Chw B W' gch gt gm nn DT ve L tu be bh gc bm bc n m tip ht DC EC R' gb nb' DB' gu nu DU := by
  have hv : ve.ownBlock ≠ some gb := fun e => by
    obtain ⟨c, hc⟩ := h.t.own.rowT e
    exact ne_map hc h.b rfl
  exact ⟨(F.block _ (lt_heap h.row) (ne_map h.row h.b)).trans h.row, h.t.fr F (by rintro g rfl; exact ⟨h.bb, (ne_map h.t.row h.b).symm, h.n1.2.2.1.symm, hv⟩), h.c.fr F (by rintro g rfl; exact ⟨h.bb, (ne_map h.c.row h.b).symm, h.n2.1, h.n2.2.1⟩), o, own_block h.u (F.block _ h.u.lt h.n2.2.2.symm), h.bg, h.bb, h.bu, h.n1, h.n2, h.n3⟩
theorem Chw.und (h : Chw B W gch gt gm nn DT ve L tu be bh gc bm bc n m tip ht DC EC R gb nb DB gu nu DU) {nu' : Nat} {DU' : DataW Unit} (o : W'.ownsMap Tryz.prog 46 unR gu nu' DU') (F : Frt (fun g => g = gu) W W') : Chw B W' gch gt gm nn DT ve L tu be bh gc bm bc n m tip ht DC EC R gb nb DB gu nu' DU' := by
  have hv : ve.ownBlock ≠ some gu := fun e => by
    obtain ⟨c, hc⟩ := h.t.own.rowT e
    exact ne_map hc h.u rfl
  exact ⟨(F.block _ (lt_heap h.row) (ne_map h.row h.u)).trans h.row, h.t.fr F (by rintro g rfl; exact ⟨h.bu, (ne_map h.t.row h.u).symm, h.n1.2.2.2.symm, hv⟩), h.c.fr F (by rintro g rfl; exact ⟨h.bu, (ne_map h.c.row h.u).symm, h.n3.1, h.n3.2⟩), own_block h.b (F.block _ h.b.lt h.n2.2.2), o, h.bg, h.bb, h.bu, h.n1, h.n2, h.n3⟩
theorem Chw.cells (h : Chw B W gch gt gm nn DT ve L tu be bh gc bm bc n m tip ht DC EC R gb nb DB gu nu DU) : W.cell? ⟨gch, 0, none⟩ = some (.pointer (some ⟨gt, 0, none⟩)) ∧ W.cell? ⟨gch, 1, none⟩ = some (.pointer (some ⟨gc, 0, none⟩)) ∧ W.cell? ⟨gch, 2, none⟩ = some (.map (some gb)) ∧ W.cell? ⟨gch, 3, none⟩ = some (.map (some gu)) := by
  refine ⟨?_, ?_, ?_, ?_⟩ <;> rw [cell_of_row _ _ _ _ _ _ h.row] <;> rfl
end
theorem Tno.set_flg (x y : Tno) (j : Nat) (hj : j < 4) (v : Value) (e1 : y.id = x.id) (e2 : y.h = x.h) (e3 : y.mid = x.mid) (e4 : y.wk = x.wk) (e5 : y.ptr = x.ptr) (hf : y.flg = x.flg.set j v) : y.cells = x.cells.set (106 + j) v := by
  rw [Tno.cells, Tno.cells, List.set_append_left _ _ (by rw [x.pub_len]; omega), e5]
  congr 1
  rw [Tno.pub, Tno.pub, e1, e2, e3, e4, hf]
  rw [List.set_append_right _ _ (by rw [cellsL_len, x.hi]; omega), cellsL_len, x.hi]
  rw [List.set_append_right _ _ (by rw [x.h.len]; omega), x.h.len]
  rw [List.set_append_right _ _ (by show 2 ≤ _; omega)]
  rw [List.set_append_right _ _ (by rw [wn_len]; show 4 ≤ 106 + j - 32 - 68 - 2; omega), wn_len]
  rw [show 106 + j - 32 - 68 - x.mid.length - 4 = j by show 106 + j - 32 - 68 - 2 - 4 = j; omega]
def Tno.withBd (x : Tno) : Tno := { x with bd := true }
def Tno.withWh (x : Tno) : Tno := { x with wh := true }
def Tno.withTu (x : Tno) (p : Nat) : Tno := { x with tu := p }
theorem Tno.withBd_cells (x : Tno) : x.withBd.cells = x.cells.set 106 (.bool true) := x.set_flg _ 0 (by omega) _ rfl rfl rfl rfl rfl rfl
theorem Tno.withWh_cells (x : Tno) : x.withWh.cells = x.cells.set 107 (.bool true) := x.set_flg _ 1 (by omega) _ rfl rfl rfl rfl rfl rfl
theorem Tno.withTu_cells (x : Tno) (p : Nat) : (x.withTu p).cells = x.cells.set 109 (.int .i64 (p : Int)) := x.set_flg _ 3 (by omega) _ rfl rfl rfl rfl rfl rfl
section
variable {B W : World} {gt gm n g c : Nat} {D : DataW Unit} {ve : Value} {L : List Tno} {tu be bh : Nat}
theorem Tm4.setNo (h : Tm4 B W gt gm n D (.slice (some ⟨g, 0, none⟩) L.length c) L tu be bh) (k : Nat) (hk : k < L.length) (j : Nat) (hj : j < 114) (v : Value) (x : Tno) (hx : x.cells = L[k].cells.set j v) : Tm4 B (W.setCell ⟨g, k * 114 + j, none⟩ v) gt gm n D (.slice (some ⟨g, 0, none⟩) L.length c) (L.set k x) tu be bh ∧ Frt (S4 gt gm (.slice (some ⟨g, 0, none⟩) L.length c)) W (W.setCell ⟨g, k * 114 + j, none⟩ v) := by
  have hne := h.be g rfl
  have hb : ∀ q, q ≠ g → (W.setCell ⟨g, k * 114 + j, none⟩ v).heap[q]? = W.heap[q]? := fun q hq => Below.heap_setCell _ _ _ _ hq
  have hsz : (W.setCell ⟨g, k * 114 + j, none⟩ v).heap.size = W.heap.size := by simp [World.setCell]
  exact ⟨⟨(hb gt (fun e => hne.2.1 e.symm)).trans h.row, h.map.of_block (hb gm (fun e => hne.2.2 e.symm)), OX.setC (E := KNo) h.own k hk x j hj v hx, ⟨h.bel.os, h.bel.tape, h.bel.output, by rw [hsz]; exact h.bel.size, fun q hq => (hb q (by omega)).trans (h.bel.block q hq)⟩, h.bt, h.bm, h.ne, h.be⟩, Frt.setCell W (p := ⟨g, k * 114 + j, none⟩) (.inr (.inr rfl)) v⟩
theorem Tm4.setTr (h : Tm4 B W gt gm n D ve L tu be bh) (j : Nat) (v : Value) (tu' be' bh' : Nat) (e : (trA gm ve tu be bh).setIfInBounds j v = trA gm ve tu' be' bh') : Tm4 B (W.setCell ⟨gt, j, none⟩ v) gt gm n D ve L tu' be' bh' ∧ Frt (S4 gt gm ve) W (W.setCell ⟨gt, j, none⟩ v) := by
  have hb : ∀ q, q ≠ gt → (W.setCell ⟨gt, j, none⟩ v).heap[q]? = W.heap[q]? := fun q hq => Below.heap_setCell _ _ _ _ hq
  have hsz : (W.setCell ⟨gt, j, none⟩ v).heap.size = W.heap.size := by simp [World.setCell]
  have hx := h.bt
  have r := heap_setCell_same W gt j _ _ v h.row
  rw [e] at r
  exact ⟨⟨r, h.map.of_block (hb gm (Ne.symm h.ne)), h.own.of_block fun q hq => hb q (h.be q hq).2.1, ⟨h.bel.os, h.bel.tape, h.bel.output, by rw [hsz]; exact h.bel.size, fun q hq => (hb q (by omega)).trans (h.bel.block q hq)⟩, h.bt, h.bm, h.ne, h.be⟩, Frt.setCell W (p := ⟨gt, j, none⟩) (.inl rfl) v⟩
theorem Tm4.setTU (h : Tm4 B W gt gm n D ve L tu be bh) (p : Nat) : Tm4 B (W.setCell ⟨gt, 2, none⟩ (.int .i64 (p : Int))) gt gm n D ve L p be bh ∧ Frt (S4 gt gm ve) W (W.setCell ⟨gt, 2, none⟩ (.int .i64 (p : Int))) := h.setTr 2 _ p be bh rfl
theorem Tm4.setBE (h : Tm4 B W gt gm n D ve L tu be bh) (p : Nat) : Tm4 B (W.setCell ⟨gt, 3, none⟩ (.int .i64 (p : Int))) gt gm n D ve L tu p bh ∧ Frt (S4 gt gm ve) W (W.setCell ⟨gt, 3, none⟩ (.int .i64 (p : Int))) := h.setTr 3 _ tu p bh rfl
end
end Go.Proofs.YtcoojkpimbddlaaGreatDoor
