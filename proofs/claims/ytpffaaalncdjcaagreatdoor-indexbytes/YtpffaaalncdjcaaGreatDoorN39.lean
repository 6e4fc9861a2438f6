/- The index: awake (an entry is kept): its contract. The index: Open on a fresh disk: its contract. awake, whole; the calls of a nil index; IndexNil's walk. What the listed table gives the walks: K0 .. K63 in their cells; a world that has them. -/
import Derived.Test.YtpffaaalncdjcaaGreatDoorN38
import Derived.Test.YtpffaaalncdjcaaGreatDoorN02
import Derived.ProofKit
import Derived.LaidMore
import Derived.OpenShut
import Derived.Stop.Joined
import Derived.ShutString
import Derived.ChangeOld
import Derived.SizedLaws
import Derived.Lib.SmallJoins
namespace Go.Proofs.YtpffaaalncdjcaaGreatDoor
open Go.RowKit
open Go.Deep
open Go.Maps
set_option linter.unusedVariables false
theorem fieldBk (h : Hd) (v : Value) (W : World) : (Instr.field 92 (.agg (bkA h v)) 0).run Tryz.prog W = .ok (.agg h.cells.toArray) W := by
  obtain ⟨ve, p, r, t, b, o, hp, hr⟩ := h
  obtain ⟨_, _, _, _, _, _, _, _, _, _, _, _, _, _, _, _, _, _, _, _, _, _, _, _, _, _, _, _, _, _, _, _, rfl⟩ := id32' p hp
  obtain ⟨_, _, _, _, _, _, _, _, _, _, _, _, _, _, _, _, _, _, _, _, _, _, _, _, _, _, _, _, _, _, _, _, rfl⟩ := id32' r hr
  kernel_rfl
theorem wpFieldBk {w : World} {ops : Array Oper} {rest : List Oper} {o : Oper} {a : Act} {Q : Exit → Act → World → Prop} (x : Operand) (ho : o.op = .field 92 x 0) (h0 : Hd) (v : Value) (hx : a.eval x = .agg (bkA h0 v)) (hw : Region.wanted o (yielded ops a.tmps) = true)
    (h : wpList Tryz.prog ops Q rest (a.put o.dst (.agg h0.cells.toArray)) w) : wpList Tryz.prog ops Q (o :: rest) a w := by
  refine wpList_step fun K hK => ?_
  rw [if_pos hw]
  unfold Oper.wp execOp
  simp only [ho, hx, Sem.run_bind, fieldBk, Result.andThen_ok, Sem.run_pure]
  exact hK _ _ h
section
set_option maxRecDepth 10000
attribute [-go_sem] Instr.build
set_option maxHeartbeats 4000000
theorem awake13_of (w : World) (hK : Kg w) (HO : Hid (∀ W T, DBk K0 w W w.heap.size x0 T → Calls Tryz.prog 15 #[.pointer (some ⟨w.heap.size, 0, none⟩), .string nmI] W fun e w' => ∃ gx gm gj T', e = .returned (.tuple #[.pointer (some ⟨gx, 0, none⟩), .int .i64 0, .int .i64 0]) ∧ Xm w w' gx gm gj 0 (.map []) (.slice none 0 0) [] 0 ∧ JB K0 w w' gj w.heap.size ⟨nmI, 0, [], 0, false⟩ (xo nmI) T' (.slice none 0 0) ∧ ¬ jsI T' gj (.slice none 0 0) gx ∧ ¬ jsI T' gj (.slice none 0 0) gm)) : Calls Tryz.prog 10 #[] w fun e w' => e = .returned (.bool true) ∧ Below w.heap.size w w' := by
  have HN := hide (newD_any w)
  have HG : Hid (∀ W, Kg W → Calls Tryz.prog 39 #[] W fun e w' => ∃ ao cap, e = .returned (.agg (bkA (gH.at 1) (.slice ao 1 cap))) ∧ Below W.heap.size W w') := fun W q => (genesis_any W q).mono (by rintro e w' ⟨ao, cap, y, rfl, _, _, be⟩; exact ⟨ao, cap, rfl, be⟩)
  have HP : Hid (∀ W gx gm gj T, Xm w W gx gm gj 0 (.map []) (.slice none 0 0) [] 0 → JB K0 w W gj w.heap.size ⟨nmI, 0, [], 0, false⟩ (xo nmI) T (.slice none 0 0) → ¬ jsI T gj (.slice none 0 0) gx → ¬ jsI T gj (.slice none 0 0) gm → Calls Tryz.prog 28 #[.pointer (some ⟨gx, 0, none⟩), .agg gE.cells.toArray] W fun e w' => e = .returned (.int .i64 0) ∧ ∃ v', Xm w w' gx gm gj 1 ((DataW.map []).put (.string (gH.at 1).id) (.lit (.int .i64 0))) v' [gE] 1 ∧ Fr (fun g => g = gx ∨ g = gm ∨ jsI T gj (.slice none 0 0) g) W w') := fun W gx gm gj T h j hx hm => put_first hK h j hx hm gE gE_may rfl
  have HI : Hid (∀ W, Kg W → Calls Tryz.prog 40 #[.agg (gH.at 1).cells.toArray] W fun e w' => e = .returned (.agg (hc (gH.at 1).id)) ∧ Below W.heap.size W w') := fun W q => hid_any (gH.at 1) W q
  have HT : Hid (∀ W gx gm gj v, Xm w W gx gm gj 1 ((DataW.map []).put (.string (gH.at 1).id) (.lit (.int .i64 0))) v [gE] 1 → Calls Tryz.prog 27 #[.pointer (some ⟨gx, 0, none⟩), .agg (hc (gH.at 1).id)] W fun e w' => e = .returned (.tuple #[.agg gE.cells.toArray, .bool true]) ∧ Below W.heap.size W w') := fun W gx gm gj v h => by
    have := getI_yes h (gH.at 1).id (Hd.id_len _) 0 (by decide) (by decide) (atKey_put_same ⟨_, rfl⟩ (by simp [WideAt.IsKeyLit]) _ _) (has_put_same ⟨_, rfl⟩ (by simp [WideAt.IsKeyLit]) _)
    exact this
  have KS : Hid (∀ W, Below w.heap.size w W → Kg W) := fun W b => hK.next b
  have EQ := hide (eqHd fh_api (gH.at 1))
  have EG : Hid (Tryz.prog.eqGuardType Tryz.prog.depth 26 = false) := by show _ = _; kernel_rfl
  have RW : Hid (∀ (W : World) g, W.heap[g]? = some (.cells gE.cells.toArray 28 (0, 0)) → W.rangeAt g 0 (gH.at 1).cells ∧ W.cell? ⟨g, 69, none⟩ = some (.int .i64 3)) := fun W g e => ⟨(gE.row e).1, (gE.row e).2.2.1⟩
  have BE : Hid (∀ W, (Instr.build 28 #[(0, .agg (gH.at 1).cells.toArray), (2, .int .i64 3)]).run Tryz.prog W = .ok (.agg gE.cells.toArray) W) := bld_gE
  have EZ := hide (And.intro gE.size gE.all)
  have HZ := hide (And.intro (show (gH.at 1).cells.toArray.size = 68 by rw [List.size_toArray, Hd.len]) (gH.at 1).all)
  clear hK
  unfold nmI at HO
  generalize gE = EE at *
  generalize gH.at 1 = HH at *
  generalize hEC : EE.cells.toArray = CE at *
  clear hEC
  go_enter Tryz.func10, Tryz.ntmps10
  go_upto_region 5 with (first | (go_at_call 14; refine HN.out.mono ?_; rintro e w1 ⟨rfl, d1, b1⟩; have D1 := hide (db_new d1 b1); clear d1 b1) | (go_at_call 15; refine (HO.out _ _ D1.out).mono ?_; rintro e W2 ⟨gx, gm, gj, T2, rfl, x2, j2, n2, m2⟩; have X2 := hide x2; have J2 := hide j2; have NX := hide (And.intro n2 m2); clear x2 j2 n2 m2))
  go_upto_region 6 with (first | (go_at_call 39; refine (HG.out _ (KS.out _ X2.out.bel)).mono ?_; rintro e W3 ⟨ao, cap, rfl, be⟩; have D3 := hide be; clear be) | ((with_reducible refine at_list ?_); first | refine wpFieldBk _ rfl HH (.slice ao 1 cap) rfl (by rfl) ?_ | refine wpList_allocA AHd rfl rfl ?_ | refine wpList_store_newA AHd rfl _ _ rfl _ rfl HH.cells.toArray HZ.out.1 HZ.out.2 rfl rfl ?_))
  have b3 := (Below.refl W3.heap.size W3).alloc (Nat.le_refl _) (.cells HH.cells.toArray 26)
  have D4 := hide (below_next D3.out b3)
  have R4 := hide (heap_alloc_last W3 (.cells HH.cells.toArray 26))
  have LT4 : Hid (∀ g, g = gx ∨ g = gm ∨ jsI T2 gj (.slice none 0 0) g → g < W3.heap.size) := fun g c => by
    have h1 := lt_heap X2.out.row
    have h2 := ownsMap_lt X2.out.map
    have h3 := D3.out.size
    rcases c with rfl | rfl | c
    · omega
    · omega
    · have := jsI_lt J2.out c; omega
  clear b3 D1 HN HO HG
  generalize W3.alloc (.cells HH.cells.toArray 26) = W4 at *
  generalize W3.heap.size = g5 at *
  have X4 := hide (X2.out.next D4.out)
  have J4 := hide (J2.out.next D4.out)
  clear X2 J2 D3 D4
  have be := BE.out
  go_upto_region 7 with (first | (go_at_call 28; refine (HP.out _ _ _ _ _ X4.out J4.out NX.out.1 NX.out.2).mono ?_; rintro e W5 ⟨rfl, v5, x5, f5⟩; have X5 := hide x5; have R5 := hide ((f5.block _ (lt_heap R4.out) fun c => Nat.lt_irrefl _ (LT4.out _ c)).trans R4.out); clear x5 f5) | ((with_reducible refine at_list ?_); refine wpList_loadS AHd _ rfl g5 rfl HH.cells.toArray HZ.out.1 26 R4.out (by rfl) ?_))
  clear be BE HP X4 J4 R4 LT4 NX
  go_upto_region 8 with (first | (go_at_call 40; refine (HI.out _ (KS.out _ X5.out.bel)).mono ?_; rintro e W6 ⟨rfl, be⟩; have D6 := hide be; have X6 := hide (X5.out.next be); clear be) | (go_at_call 27; refine (HT.out _ _ _ _ _ X6.out).mono ?_; rintro e W7 ⟨rfl, be⟩; have D7 := hide (below_next D6.out be); clear be) | ((with_reducible refine at_list ?_); first | refine wpList_loadS AHd _ rfl g5 rfl HH.cells.toArray HZ.out.1 26 R5.out (by rfl) ?_ | refine wpList_allocA AEn rfl rfl ?_ | refine wpList_store_newA AEn rfl _ _ rfl _ rfl CE EZ.out.1 EZ.out.2 rfl rfl ?_))
  have b8 := (Below.refl W7.heap.size W7).alloc (Nat.le_refl _) (.cells CE 28)
  have D8 := hide (below_next D7.out b8)
  have R8 := hide (heap_alloc_last W7 (.cells CE 28))
  clear b8 D6 D7 HI HT X6
  generalize W7.alloc (.cells CE 28) = W8 at *
  generalize W7.heap.size = g7 at *
  have R5b := hide ((D8.out.block _ (lt_heap R5.out)).trans R5.out)
  have RH := hide (RW.out _ _ R8.out).1
  have c69 := (RW.out _ _ R8.out).2
  have F8 := hide (X5.out.next D8.out).bel
  clear R5 X5 R8 RW D8 KS
  go_wp2_with ((with_reducible refine at_list ?_); first | refine wpLoadHd _ rfl g7 0 rfl HH RH.out (by rfl) ?_ | refine wpList_loadS AHd _ rfl g5 rfl HH.cells.toArray HZ.out.1 26 R5b.out (by rfl) ?_ | refine wpList_eql 26 _ _ _ rfl HH.cells.toArray HH.cells.toArray rfl rfl (by rfl) EG.out true EQ.out ?_)
  go_ret
  exact ⟨rfl, F8.out⟩
end
end Go.Proofs.YtpffaaalncdjcaaGreatDoor
namespace Go.Proofs.YtpffaaalncdjcaaGreatDoor
open Go.RowKit
open Go.Deep
open Go.Maps
set_option linter.unusedVariables false
section
set_option maxRecDepth 10000
set_option maxHeartbeats 4000000
theorem openI_fresh {B w : World} {gd : Nat} {T : Nat → Prop} (hK : Kg B) (h : DBk K0 B w gd x0 T) : Calls Tryz.prog 15 #[.pointer (some ⟨gd, 0, none⟩), .string nmI] w fun e w' => ∃ gx gm gj T', e = .returned (.tuple #[.pointer (some ⟨gx, 0, none⟩), .int .i64 0, .int .i64 0]) ∧ Xm B w' gx gm gj 0 (.map []) (.slice none 0 0) [] 0 ∧ JB K0 B w' gj gd ⟨nmI, 0, [], 0, false⟩ (xo nmI) T' (.slice none 0 0) ∧ ¬ jsI T' gj (.slice none 0 0) gx ∧ ¬ jsI T' gj (.slice none 0 0) gm := by
  have HO := hide (open_x0 h nmI ⟨hK, id⟩ okI)
  have mk := make13
  have HM : Hid (∀ W gj T, JB K0 B W gj gd ⟨nmI, 0, [], 0, false⟩ (xo nmI) T (.slice none 0 0) → Xm B ((W.alloc (.map #[] 0)).alloc (.cells (ixA gj W.heap.size (.slice none 0 0) 0) 107)) (W.heap.size + 1) W.heap.size gj 0 (.map []) (.slice none 0 0) [] 0 ∧ JB K0 B ((W.alloc (.map #[] 0)).alloc (.cells (ixA gj W.heap.size (.slice none 0 0) 0) 107)) gj gd ⟨nmI, 0, [], 0, false⟩ (xo nmI) T (.slice none 0 0) ∧ ¬ jsI T gj (.slice none 0 0) (W.heap.size + 1) ∧ ¬ jsI T gj (.slice none 0 0) W.heap.size) := fun W gj T j => by
    have s1 : (W.alloc (.map #[] 0)).heap.size = W.heap.size + 1 := by simp
    have b := ((Below.refl W.heap.size W).alloc (Nat.le_refl _) (.map #[] 0)).alloc (by rw [s1]; omega) (.cells (ixA gj W.heap.size (.slice none 0 0) 0) 107)
    have b2 := (Below.refl (W.alloc (.map #[] 0)).heap.size (W.alloc (.map #[] 0))).alloc (Nat.le_refl _) (.cells (ixA gj W.heap.size (.slice none 0 0) 0) 107)
    have r := heap_alloc_last (W.alloc (.map #[] 0)) (.cells (ixA gj W.heap.size (.slice none 0 0) 0) 107)
    rw [s1] at r
    have o1 := World.ownsMap_made (H := Unit) W Tryz.prog 24 (plainElem Tryz.prog 3)
    have hs := j.bel.size
    exact ⟨⟨r, ownsMap_of_block o1 (b2.block _ (by rw [s1]; omega)), OX.nil _, j.bel.k0.trans (b.mono hs), by omega, hs, by omega, fun g e => by cases e⟩, j.next b, fun c => by have := jsI_lt j c; omega, fun c => by have := jsI_lt j c; omega⟩
  have HA : Hid (∀ W gj T, JB K0 B W gj gd ⟨nmI, 0, [], 0, false⟩ (xo nmI) T (.slice none 0 0) → Calls Tryz.prog 26 #[.pointer (some ⟨gj, 0, none⟩)] W fun e w' => ∃ ao cap, e = .returned (.slice ao 0 cap) ∧ Below W.heap.size W w') := fun W gj T j => by
    refine (allJ_any j (by decide)).mono ?_
    rintro e w' ⟨v', rfl, ox, be, _⟩
    obtain ⟨ao, cap, rfl⟩ := ox.form
    exact ⟨ao, cap, rfl, be⟩
  have HL := hide fun vx ao cap W => loadI_none vx ao cap W
  have HC : Hid (∀ W gj T, JB K0 B W gj gd ⟨nmI, 0, [], 0, false⟩ (xo nmI) T (.slice none 0 0) → Calls Tryz.prog 46 #[.pointer (some ⟨gj, 0, none⟩), .int .i64 0] W fun e w' => e = .returned (.int .i64 0) ∧ w' = W) := fun W gj T j => by
    have c := cutBehind_all j
    rw [show ((⟨nmI, 0, [], 0, false⟩ : Jr).recs.length : Int) = 0 from rfl] at c
    exact c
  clear h
  go_enter Tryz.func15, Tryz.ntmps15
  go_upto_region 4 with (go_at_call 21; refine HO.out.mono ?_; rintro e w1 ⟨gj, T1, rfl, j1⟩; have J1 := hide j1; clear j1)
  have s1 : (w1.alloc (.map #[] 0)).heap.size = w1.heap.size + 1 := by simp
  have M1 := hide (HM.out _ _ _ J1.out)
  go_upto_region 5 with ((with_reducible refine at_list ?_); refine wpList_boxA rfl _ rfl (ixA gj w1.heap.size (.slice none 0 0) 0) rfl ?_)
  try rw [s1]
  clear s1 mk HM
  generalize (w1.alloc (.map #[] 0)).alloc (.cells (ixA gj w1.heap.size (.slice none 0 0) 0) 107) = W2 at *
  generalize w1.heap.size + 1 = gx at *
  generalize w1.heap.size = gm at *
  go_wp2_with (first | (go_at_call 26; refine (HA.out _ _ _ M1.out.2.1).mono ?_; rintro e w3 ⟨ao, cap, rfl, be⟩; have D3 := hide be; clear be) | (go_at_call 45; refine (HL.out _ _ _ _).mono ?_; rintro e w4 ⟨rfl, hw⟩; subst w4) | (go_at_call 46; refine (HC.out _ _ _ (M1.out.2.1.next D3.out)).mono ?_; rintro e w4 ⟨rfl, hw⟩; subst w4))
  go_ret3
  exact ⟨gx, gm, gj, T1, rfl, M1.out.1.next D3.out, M1.out.2.1.next D3.out, M1.out.2.2.1, M1.out.2.2.2⟩
end
end Go.Proofs.YtpffaaalncdjcaaGreatDoor
namespace Go.Proofs.YtpffaaalncdjcaaGreatDoor
open Go.RowKit
open Go.Deep
open Go.Maps
set_option linter.unusedVariables false
section
set_option maxRecDepth 10000
set_option maxHeartbeats 4000000
theorem awake13 (w : World) (hK : Kg w) : Calls Tryz.prog 10 #[] w fun e w' => e = .returned (.bool true) ∧ Below w.heap.size w w' :=
  awake13_of w hK (fun W T h => openI_fresh hK h)
theorem putI_nil (x : En) (w : World) : Calls Tryz.prog 28 #[.pointer none, .agg x.cells.toArray] w fun e w' => e = .returned (.int .i64 1) ∧ Below w.heap.size w w' := by
  have B1 := hide ((Below.refl w.heap.size w).alloc (Nat.le_refl _) (.cells x.cells.toArray 28))
  generalize x.cells.toArray = C at *
  go_enter Tryz.func28, Tryz.ntmps28
  go_upto_region 1 with ((with_reducible refine at_list ?_); refine wpList_boxA rfl _ rfl C rfl ?_)
  generalize w.alloc (.cells C 28) = W0 at *
  go_wp2
  go_ret
  exact ⟨rfl, B1.out⟩
theorem flushI_nil (w : World) : Calls Tryz.prog 16 #[.pointer none] w fun e w' => e = .returned (.int .i64 1) ∧ w' = w := by
  go_enter Tryz.func16, Tryz.ntmps16
  go_wp2
  go_ret
  exact ⟨rfl, rfl⟩
theorem compactI_nil (w : World) : Calls Tryz.prog 29 #[.pointer none] w fun e w' => e = .returned (.int .i64 1) ∧ w' = w := by
  go_enter Tryz.func29, Tryz.ntmps29
  go_wp2
  go_ret
  exact ⟨rfl, rfl⟩
theorem allI_nil (w : World) : Calls Tryz.prog 30 #[.pointer none] w fun e w' => e = .returned (.slice none 0 0) ∧ w' = w := by
  go_enter Tryz.func30, Tryz.ntmps30
  go_wp2
  go_ret
  exact ⟨rfl, rfl⟩
theorem lenI_nil (w : World) : Calls Tryz.prog 31 #[.pointer none] w fun e w' => e = .returned (.int .i64 0) ∧ w' = w := by
  go_enter Tryz.func31, Tryz.ntmps31
  go_wp2
  go_ret
  exact ⟨rfl, rfl⟩
theorem recordsI_nil (w : World) : Calls Tryz.prog 19 #[.pointer none] w fun e w' => e = .returned (.int .i64 0) ∧ w' = w := by
  go_enter Tryz.func19, Tryz.ntmps19
  go_wp2
  go_ret
  exact ⟨rfl, rfl⟩
theorem looseI_nil (w : World) : Calls Tryz.prog 20 #[.pointer none] w fun e w' => e = .returned (.int .i64 0) ∧ w' = w := by
  go_enter Tryz.func20, Tryz.ntmps20
  go_wp2
  go_ret
  exact ⟨rfl, rfl⟩
theorem indexNil_walk (w : World) (hK : Kg w) (x : En) : Calls Tryz.prog 6 #[.agg x.cells.toArray] w fun r w' => r = .returned (.bool true) ∧ Below w.heap.size w w' := by
  have b1 := (Below.refl w.heap.size w).alloc (Nat.le_refl _) (.cells x.cells.toArray 28)
  have R1 := hide (heap_alloc_last w (.cells x.cells.toArray 28))
  have B1 := hide b1
  have KS : Hid (∀ W, Below w.heap.size w W → Kg W) := fun W b => hK.next b
  have HG := hide (fun W => getI_nil zeros zeros_len W)
  have HO := hide (fun W => openI_nil nmI W)
  have HA : Hid (∀ W, Kg W → Calls Tryz.prog 10 #[] W fun e w' => e = .returned (.bool true) ∧ Below W.heap.size W w') := fun W k => awake13 W k
  have HP := hide (fun W => putI_nil x W)
  have HF := hide flushI_nil
  have HC := hide compactI_nil
  have HL := hide allI_nil
  have HN := hide lenI_nil
  have HR := hide recordsI_nil
  have HQ := hide looseI_nil
  have CZ := hide x.size
  have ZZ := hide (And.intro zEn.size zEn.all)
  clear hK b1
  unfold nmI at HO
  generalize x.cells.toArray = C at *
  generalize zEn.cells.toArray = Z at *
  go_enter Tryz.func6, Tryz.ntmps6
  go_upto_region 1 with ((with_reducible refine at_list ?_); refine wpList_boxA rfl _ rfl C rfl ?_)
  generalize w.alloc (.cells C 28) = W0 at *
  go_upto_region 3 with (first | (go_at_call 27; refine (HG.out _).mono ?_; rintro r W1 ⟨rfl, be⟩; have D1 := hide be; clear be) | ((with_reducible refine at_list ?_); first | refine wpList_buildA A25 rfl rfl ?_ | refine wpList_allocA AEn rfl rfl ?_ | refine wpList_store_newA AEn rfl _ _ rfl _ rfl Z ZZ.out.1 ZZ.out.2 rfl rfl ?_))
  have b2 := (Below.refl W1.heap.size W1).alloc (Nat.le_refl _) (.cells Z 28)
  have D2 := hide (below_next D1.out b2)
  clear b2 D1
  generalize W1.alloc (.cells Z 28) = W2 at *
  generalize W1.heap.size = g4 at *
  have R2 := hide ((D2.out.block _ (lt_heap R1.out)).trans R1.out)
  have B2 := hide (below_next B1.out D2.out)
  clear D2 R1 B1
  go_upto_region 4 with (go_at_call 15; refine (HO.out _).mono ?_; rintro r W3 ⟨rfl, hw⟩; subst W3)
  go_wp2_with (first | (go_at_call 10; refine (HA.out _ (KS.out _ B2.out)).mono ?_; rintro r W4 ⟨rfl, be⟩; have R4 := hide ((be.block _ (lt_heap R2.out)).trans R2.out); have B4 := hide (below_next B2.out be); clear be) | (go_at_call 28; refine (HP.out _).mono ?_; rintro r W5 ⟨rfl, be⟩; have B5 := hide (below_next B4.out be); clear be) | (go_at_call 16; refine (HF.out _).mono ?_; rintro r W6 ⟨rfl, hw⟩; subst W6) | (go_at_call 29; refine (HC.out _).mono ?_; rintro r W6 ⟨rfl, hw⟩; subst W6) | (go_at_call 30; refine (HL.out _).mono ?_; rintro r W6 ⟨rfl, hw⟩; subst W6) | (go_at_call 31; refine (HN.out _).mono ?_; rintro r W6 ⟨rfl, hw⟩; subst W6) | (go_at_call 19; refine (HR.out _).mono ?_; rintro r W6 ⟨rfl, hw⟩; subst W6) | (go_at_call 20; refine (HQ.out _).mono ?_; rintro r W6 ⟨rfl, hw⟩; subst W6) | ((with_reducible refine at_list ?_); refine wpList_loadS AEn _ rfl w.heap.size rfl C CZ.out 28 R2.out (by rfl) ?_) | ((with_reducible refine at_list ?_); refine wpList_loadS AEn _ rfl w.heap.size rfl C CZ.out 28 R4.out (by rfl) ?_))
  go_ret
  exact ⟨rfl, B5.out⟩
end
end Go.Proofs.YtpffaaalncdjcaaGreatDoor
namespace Go.Proofs.YtpffaaalncdjcaaGreatDoor
open Go.ChangeShapes Go.WideShapes Go.ChangeAt Go.RowKit Go.Joins
set_option maxRecDepth 10000
theorem own : ownKnob Tryz.prog.godebug = none := by kernel_rfl
theorem laidOut : laidOutB Tryz.prog = true := by kernel_rfl
theorem gRounds : Tryz.prog.globalNamed "bedrock/sha.rounds" = some 0 := by kernel_rfl
theorem tRounds : (Tryz.prog.globals[0]?).map (·.type) = some 248 := by kernel_rfl
theorem cells5 : Tryz.prog.cellsOf 5 = 1 := by kernel_rfl
theorem cells29 : Tryz.prog.cellsOf 22 = 1 := by kernel_rfl
theorem cells66 : Tryz.prog.cellsOf 248 = 64 := by kernel_rfl
abbrev laid1 : List (String × DataW Unit) := [("bedrock/sha.rounds", Rows.laid_bedrock_sha_rounds)]
theorem rounds_eq : (Rows.laid_bedrock_sha_rounds : DataW Unit) = .agg (kL.map fun x => .lit (.int .u32 (x.toNat : Int))) := by kernel_rfl
set_option maxRecDepth 100000 in
theorem door_met (os : Os) (args : Array Value) : laidMetH Tryz.prog laid1 ((World.doorLaid Tryz.prog 400 os).forCall (fun _ _ => 0) ⟨#[], args, []⟩).memory :=
  laidMetH_of_parts3 (fuel := 8) (laidMet_of_run' 8 (by kernel_rfl) (by kernel_rfl)) (by kernel_rfl) (by kernel_rfl)
theorem of_laid {W : World} (h : laidMetH Tryz.prog laid1 W) : Kg W := by
  rw [MakeChecks.laidMetH_plain _ _ _ (by kernel_rfl)] at h
  obtain ⟨ps, ⟨g0, t0, cs0, f0, p0, q0, hg0, ht0, hv0, hd0, _, _⟩, _, _⟩ := h
  obtain rfl := Option.some.inj (gRounds.symm.trans hg0)
  obtain rfl := Option.some.inj (tRounds.symm.trans ht0)
  rw [rounds_eq] at hd0
  obtain ⟨xs, m1, rfl, hx1, hlen, hn, hel⟩ := DataW.trod_array Tryz.underlying248 hd0
  rw [cells66] at hlen
  rw [cells29] at hel
  simp only [Prod.mk.injEq, DataW.agg.injEq] at hx1
  intro j hj
  have hxj : xs[j]? = some (xs[j]'(by omega)) := List.getElem?_eq_getElem (by omega)
  have e := hel j hj
  rw [hxj, Nat.mul_one, List.drop_eq_getElem_cons (by omega)] at e
  simp only [List.take_succ_cons, List.take_zero] at e
  obtain ⟨a, ea, e2, _⟩ := DataW.trod_int Tryz.underlying22 e
  simp only [List.cons.injEq, and_true] at ea
  have h1 := congrArg (fun l : List (DataW Unit) => l[j]?) hx1.1
  simp only [List.getElem?_map, hxj, Option.map_some] at h1
  have hk : kL[j]? = some (kk j) := by
    rw [kk, List.getD_eq_getElem?_getD, List.getElem?_eq_getElem (by rw [kL_len]; exact hj)]
    rfl
  rw [hk, e2] at h1
  simp only [Option.map_some, Option.some.injEq, DataW.lit.injEq, Lit.int.injEq, true_and] at h1
  have hc := World.var?_cell hg0 hv0 j
  rw [hc, ← Array.getElem?_toList, List.getElem?_eq_getElem (by omega), ea, h1]
def byteOf : Value → UInt8
  | .int _ n => UInt8.ofNat n.toNat
  | _ => 0
def wordOf : Value → UInt32
  | .int _ n => UInt32.ofNat n.toNat
  | _ => 0
/-- An array of bytes that comes in. -/
theorem open_bytes {H : Type} {enc : TypeId × Value → H} {W : World} {base n : Nat} {t : TypeId} {v : Value} {d : DataW H} {p : List MemPlace} (hu : Tryz.prog.underlying t = some (.array n 5)) (hcs : Tryz.prog.cellsOf t = n)
    (hv : Value.okWide Tryz.prog W .any base t v) (h : DataW.Trod enc Tryz.prog W 0 (fun _ => true) true t v d p) : ∃ l : List UInt8, l.length = n ∧ v = .agg (hc l) := by
  simp only [Value.okWide, hu] at hv
  obtain ⟨cs, rfl, _, _⟩ := hv
  obtain ⟨fuel, hf⟩ := h
  obtain ⟨xs, m, rfl, hx, hlen, hxl, each⟩ := DataW.trod_array hu hf
  rw [hcs] at hlen
  have hsz : cs.size = n := by simpa [Value.cells] using hlen
  refine ⟨cs.toList.map byteOf, by simpa using hsz, ?_⟩
  have : cs = hc (cs.toList.map byteOf) := by
    apply Array.ext
    · rw [hc_size]; simp
    · intro i h1 h2
      have e := each i (by omega)
      rw [cells5, Nat.mul_one] at e
      have hxi : xs[i]? = some (xs[i]'(by omega)) := List.getElem?_eq_getElem (by omega)
      rw [hxi] at e
      obtain ⟨a, ea, _, wa⟩ := DataW.trod_int Tryz.underlying5 e
      have hab : 0 ≤ a ∧ a ≤ 255 := by simpa [Lit.wf, IntKind.min, IntKind.max, IntKind.signed, IntKind.bits] using wa
      have hc1 : (Value.agg cs).cells.toList.drop i = cs.toList.drop i := by simp [Value.cells]
      rw [hc1, List.drop_eq_getElem_cons (by simpa using h1)] at ea
      simp only [List.take_succ_cons, List.take_zero, List.cons.injEq, and_true] at ea
      have ei : cs[i] = Value.int .u8 a := by simpa using ea
      have e2 : (cs.toList.map byteOf)[i]? = some (UInt8.ofNat a.toNat) := by
        rw [List.getElem?_map, List.getElem?_eq_getElem (by simpa using h1)]
        simp [ei, byteOf]
      have e3 : (hc (cs.toList.map byteOf))[i]? = some (.int .u8 ((UInt8.ofNat a.toNat).toNat : Int)) := by
        rw [hc, List.getElem?_toArray, cellsL, List.getElem?_map, e2]; rfl
      rw [Array.getElem?_eq_getElem h2] at e3
      rw [ei, Option.some.inj e3, UInt8.toNat_ofNat']
      exact congrArg (Value.int .u8) (by omega)
  rw [← this]
/-- A state that comes in. -/
theorem open_state {H : Type} {enc : TypeId × Value → H} {W : World} {base : Nat} {t : TypeId} {v : Value} {d : DataW H} {p : List MemPlace} (hu : Tryz.prog.underlying t = some (.array 8 22)) (hcs : Tryz.prog.cellsOf t = 8)
    (hv : Value.okWide Tryz.prog W .any base t v) (h : DataW.Trod enc Tryz.prog W 0 (fun _ => true) true t v d p) : ∃ s : St, v = .agg (uc s.list) := by
  simp only [Value.okWide, hu] at hv
  obtain ⟨cs, rfl, _, _⟩ := hv
  obtain ⟨fuel, hf⟩ := h
  obtain ⟨xs, m, rfl, hx, hlen, hxl, each⟩ := DataW.trod_array hu hf
  rw [hcs] at hlen
  have hsz : cs.size = 8 := by simpa [Value.cells] using hlen
  have hl8 : (cs.toList.map wordOf).length = 8 := by simpa using hsz
  have : cs = uc (cs.toList.map wordOf) := by
    apply Array.ext
    · rw [uc_size]; simp
    · intro i h1 h2
      have e := each i (by omega)
      rw [cells29, Nat.mul_one] at e
      have hxi : xs[i]? = some (xs[i]'(by omega)) := List.getElem?_eq_getElem (by omega)
      rw [hxi] at e
      obtain ⟨a, ea, _, wa⟩ := DataW.trod_int Tryz.underlying22 e
      have hab : 0 ≤ a ∧ a ≤ 4294967295 := by simpa [Lit.wf, IntKind.min, IntKind.max, IntKind.signed, IntKind.bits] using wa
      have hc1 : (Value.agg cs).cells.toList.drop i = cs.toList.drop i := by simp [Value.cells]
      rw [hc1, List.drop_eq_getElem_cons (by simpa using h1)] at ea
      simp only [List.take_succ_cons, List.take_zero, List.cons.injEq, and_true] at ea
      have ei : cs[i] = Value.int .u32 a := by simpa using ea
      have e2 : (cs.toList.map wordOf)[i]? = some (UInt32.ofNat a.toNat) := by
        rw [List.getElem?_map, List.getElem?_eq_getElem (by simpa using h1)]
        simp [ei, wordOf]
      have e3 : (uc (cs.toList.map wordOf))[i]? = some (.int .u32 ((UInt32.ofNat a.toNat).toNat : Int)) := by
        rw [uc, List.getElem?_toArray, List.getElem?_map, e2]; rfl
      rw [Array.getElem?_eq_getElem h2] at e3
      rw [ei, Option.some.inj e3, UInt32.toNat_ofNat']
      exact congrArg (Value.int .u32) (by omega)
  rw [this]
  generalize cs.toList.map wordOf = L at hl8
  match L, hl8 with
  | [a, b, c, d, e, f, g, h], _ => exact ⟨⟨a, b, c, d, e, f, g, h⟩, rfl⟩
end Go.Proofs.YtpffaaalncdjcaaGreatDoor
