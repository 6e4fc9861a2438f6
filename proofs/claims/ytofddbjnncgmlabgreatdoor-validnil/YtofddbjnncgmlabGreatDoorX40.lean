/- awake: a block of one coinbase is connected. The calls of nil coins: their contracts. ValidNil's walk. -/
import Derived.Test.YtofddbjnncgmlabGreatDoorX39
import Derived.Test.YtofddbjnncgmlabGreatDoorX19
namespace Go.Proofs.YtofddbjnncgmlabGreatDoor
open Go.RowKit
open Go.Deep
open Go.Maps
set_option linter.unusedVariables false
set_option linter.unusedSimpArgs false
def o7 : Tu := ⟨7, ⟨#[]⟩⟩
def T7 : Tm := cbT 1 ⟨#[]⟩ [o7]
theorem T7_told : T7.toldE = 0 := by decide +kernel
theorem T7_chk : T7.chk = 0 := by decide +kernel
theorem T7_len : T7.bytes.length ≤ 100 := by decide +kernel
theorem T7_fit : T7.fit := ⟨by decide, by decide⟩
/-- A header on a tip with the root of one transaction. -/
def hd7 (tip root : List UInt8) (ht : tip.length = 32) (hr : root.length = 32) : Hd := ⟨0, tip, root, 0, 0, 0, ht, hr⟩
theorem bld_hd7 (p r : List UInt8) (hp : p.length = 32) (hr : r.length = 32) (W : World) : (Instr.build 27 #[(1, .agg (hc p)), (2, .agg (hc r))]).run Tryz.prog W = .ok (.agg (hd7 p r hp hr).cells.toArray) W := by
  obtain ⟨_, _, _, _, _, _, _, _, _, _, _, _, _, _, _, _, _, _, _, _, _, _, _, _, _, _, _, _, _, _, _, _, rfl⟩ := id32' p hp
  obtain ⟨_, _, _, _, _, _, _, _, _, _, _, _, _, _, _, _, _, _, _, _, _, _, _, _, _, _, _, _, _, _, _, _, rfl⟩ := id32' r hr
  kernel_rfl
theorem bld_bk7 (h : Hd) (a : Option Addr) (n c : Nat) (W : World) : (Instr.build 30 #[(0, .agg h.cells.toArray), (1, .slice a n c)]).run Tryz.prog W = .ok (.agg (bkA h (.slice a n c))) W := by
  obtain ⟨v, p, r, t, b, o, hp, hr⟩ := h
  obtain ⟨_, _, _, _, _, _, _, _, _, _, _, _, _, _, _, _, _, _, _, _, _, _, _, _, _, _, _, _, _, _, _, _, rfl⟩ := id32' p hp
  obtain ⟨_, _, _, _, _, _, _, _, _, _, _, _, _, _, _, _, _, _, _, _, _, _, _, _, _, _, _, _, _, _, _, _, rfl⟩ := id32' r hr
  kernel_rfl
theorem ok7 (tip : List UInt8) (ht : tip.length = 32) (x : Tq) (hx : x.m = T7) : Ok2 (hd7 tip (rtL (idsL [x])) ht (rtL_len (idsL_32 [x]))) x 1 o7 := by
  have e1 : idsL [x] = [T7.idT] := by show [x.m.idT] = _; rw [hx]
  have e3 : txsB [x] = T7.bytes := by show x.m.bytes ++ [] = _; rw [hx, List.append_nil]
  refine ⟨⟨?_, rfl, ?_, ?_, ?_, ?_, ?_⟩, ?_, ?_, ?_, by decide, by decide, Tm.idT_len _⟩
  · have := bkB_len (hd7 tip (rtL (idsL [x])) ht (rtL_len (idsL_32 [x]))) [x]
    have h1 := T7_len
    rw [e3] at this
    have h2 := clong_le (([x] : List Tq).length : Int)
    omega
  · rw [e1, muL_oneB]
  · rw [hx]; exact cbT_base _ _ _
  · rw [hx]; exact T7_chk
  · rw [hx]; exact cbT_hgt 1 (by omega) _ _
  · rw [hx]
    intro y hy
    rw [List.mem_singleton.1 hy]
    decide
  · rw [hx]; rfl
  · rw [hx]; exact T7_told
  · rw [hx]; rfl
theorem OX.one16 {α : Type} (E : Ek α) {W : World} {g : Nat} {x : α} (h : W.heap[g]? = some (.cells (E.enc x).toArray E.e (0, 0))) : OX E W (.slice (some ⟨g, 0, none⟩) 1 1) [x] := by
  have e : flatE E [x] = E.enc x := by rw [flatE_cons, flatE_nil, List.append_nil]
  refine ⟨by rw [e, E.len]; simp, .inr ⟨g, 1, (E.enc x).toArray, rfl, Nat.zero_le _, h, Nat.le_refl _, by unfold maxLen; omega, by rw [List.size_toArray, E.len, Nat.one_mul], ?_⟩⟩
  rw [e]
  exact List.take_of_length_le (by rw [E.len]; simp)
section
set_option maxRecDepth 10000
set_option maxHeartbeats 600000
theorem awake16 (w : World) (hK : Kg w) : Calls Tryz.prog 6 #[] w fun e w' => e = .returned (.bool true) ∧ Below w.heap.size w w' := by
  have HN := hide (newCoins_any w hK)
  have KS : Hid (∀ W, Below w.heap.size w W → Kg W) := fun W b => hK.next b
  have HT : Hid (∀ W gc bm bc tip h, Cst w W gc bm bc 0 0 tip h (.map []) (.map []) → Calls Tryz.prog 12 #[.pointer (some ⟨gc, 0, none⟩)] W fun e w' => e = .returned (.tuple #[.agg (hc tip), .int .i64 h]) ∧ Below W.heap.size W w') := fun W gc bm bc tip h c => tip_any c
  have HB : Hid (∀ W v, LX KO W v [o7] → Calls Tryz.prog 28 #[.int .i64 1, .string ⟨#[]⟩, v] W fun e w' => ∃ ai ci ao co, e = .returned (.tuple #[.agg (T7.cells ai ci ao co), .int .i64 0]) ∧ LT w' T7 ai ci ao co ∧ Below W.heap.size W w') := fun W v l => cbase_yes 1 ⟨#[]⟩ v [o7] W (by omega) (by decide) l (by decide)
  have IT := hide (Hd.id_len (gH.at 1))
  have KA := hide hK
  clear hK
  generalize (gH.at 1).id = TIP at *
  have TZ := hide (And.intro (show (hc TIP).size = 32 by rw [hc_size, IT.out]) (hc_one TIP))
  have BO : Hid (∀ W, (Instr.build 70 #[(0, .int .u64 7)]).run Tryz.prog W = .ok (.agg (KO.enc o7).toArray) W) := fun W => by kernel_rfl
  go_enter Tryz.func6, Tryz.ntmps6
  go_upto_region 4 with (go_at_call 5; refine HN.out.mono ?_; rintro e W1 ⟨gc, bm, bc, rfl, c1⟩; have C1 := hide c1; clear c1)
  go_upto_region 5 with (first | (go_at_call 12; refine (HT.out _ _ _ _ _ _ C1.out).mono ?_; rintro e W2 ⟨rfl, be⟩; have C2 := hide (C1.out.next be); clear be) | ((with_reducible refine at_list ?_); first | refine wpList_allocA A25 rfl rfl ?_ | refine wpList_store_newA A25 rfl _ _ rfl _ rfl (hc TIP) TZ.out.1 TZ.out.2 rfl rfl ?_))
  have C3 := hide (C2.out.next ((Below.refl W2.heap.size W2).alloc (Nat.le_refl _) (.cells (hc TIP) 25)))
  have R3 := hide (heap_alloc_last W2 (.cells (hc TIP) 25))
  clear C1 C2 HN HT
  generalize W2.alloc (.cells (hc TIP) 25) = W3 at *
  generalize W2.heap.size = g2 at *
  have N3 := hide (OX.one16 KO (heap_alloc_last W3 (.cells (KO.enc o7).toArray KO.e)))
  have B3 := hide ((Below.refl W3.heap.size W3).alloc (Nat.le_refl _) (.cells (KO.enc o7).toArray KO.e))
  have bo := BO.out
  go_upto_region 6 with (first | (go_at_call 28; refine (HB.out _ _ N3.out.read).mono ?_; rintro e W4 ⟨ai, ci, ao, co, rfl, lt, be⟩; have B4 := hide (below_next B3.out be); have LT4 := hide lt; clear be lt) | ((with_reducible refine at_list ?_); first | refine wpList_bldX rfl _ rfl #[(0, .int .u64 7)] (KO.enc o7).toArray (by simp only [List.map_toArray, List.map_cons, List.map_nil]; rfl) BO.out ?_ | refine Ek.wpBs1 KO rfl _ rfl o7 rfl ?_ | refine wpList_allocA AT rfl rfl ?_ | refine wpList_store_newA AT rfl _ _ rfl _ rfl (T7.cells ai ci ao co) rfl (T7.one _ _ _ _) rfl rfl ?_))
  have C5 := hide (C3.out.next (below_next B4.out ((Below.refl W4.heap.size W4).alloc (Nat.le_refl _) (.cells (T7.cells ai ci ao co) 90))))
  have b5 := (Below.refl W4.heap.size W4).alloc (Nat.le_refl _) (.cells (T7.cells ai ci ao co) 90)
  have R5 := hide (((below_next B4.out b5).block _ (lt_heap R3.out)).trans R3.out)
  have Q5 := hide (heap_alloc_last W4 (.cells (T7.cells ai ci ao co) 90))
  obtain ⟨x, hx⟩ : ∃ x : Tq, x = ⟨T7, ai, ci, ao, co⟩ := ⟨_, rfl⟩
  have hxm : x.m = T7 := by rw [hx]
  have XC5 : Hid (x.can (W4.alloc (.cells (T7.cells ai ci ao co) 90))) := by rw [hx]; exact ⟨LT4.out.below b5, T7_fit⟩
  have hxa : T7.cells ai ci ao co = x.arr := by rw [hx]; rfl
  have OKx := hide (ok7 TIP IT.out x hxm)
  rw [hxa] at C5 R5 Q5 XC5
  rw [hxa]
  have XZ : Hid (x.arr.size = 4) := rfl
  have HRt : Hid (∀ W v, LQ W v [x] → Kg W → Calls Tryz.prog 29 #[v] W fun e w' => e = .returned (.tuple #[.agg (hc (rtL (idsL [x]))), .bool false]) ∧ Below W.heap.size W w') := fun W v l q => by
    have := broot_any v [x] W l (by simp) q
    rw [OKx.out.s.m] at this
    exact this
  have RL := hide (rtL_len (idsL_32 [x]))
  have HC : Hid (∀ W v, Cst w W gc bm bc 0 0 TIP 0 (.map []) (.map []) → LQ W v [x] → Calls Tryz.prog 16 #[.pointer (some ⟨gc, 0, none⟩), .agg (bkA (hd7 TIP (rtL (idsL [x])) IT.out RL.out) v), .int .i64 1] W fun e w' => e = .returned (.tuple #[.agg #[.slice none 0 0], .int .i64 0]) ∧ ∃ (p : Tp) (E : DataW Unit) (id : List UInt8), Cst w w' gc bm bc 1 1 id 1 ((DataW.map []).put (.string p.keyB) (⟨7, ⟨#[]⟩, 1, true⟩ : Cn).dat) E) := fun W v c l => (connect_one (k := 0) (h := hd7 TIP (rtL (idsL [x])) IT.out RL.out) c (by omega) v x l o7 OKx.out KA.out).mono fun e w' h => ⟨h.1, _, _, _, h.2⟩
  have BHd := hide (fun W => bld_hd7 TIP (rtL (idsL [x])) IT.out RL.out W)
  have BBk := hide (fun a n c W => bld_bk7 (hd7 TIP (rtL (idsL [x])) IT.out RL.out) a n c W)
  have XK : Hid ((KT.enc x).toArray = x.arr) := rfl
  clear hx hxm hxa OKx LT4 B4 B3 N3 HB bo BO b5 C3 R3
  generalize hd7 TIP (rtL (idsL [x])) IT.out RL.out = HD at *
  generalize rtL (idsL [x]) = RT at *
  have RZ := hide (And.intro (show (hc RT).size = 32 by rw [hc_size, RL.out]) (hc_one RT))
  generalize W4.alloc (.cells x.arr 90) = W5 at *
  generalize W4.heap.size = g4 at *
  have LS5 : Hid (∀ W, Below W5.heap.size W5 W → LQ (W.alloc (.cells (KT.enc x).toArray KT.e)) (.slice (some ⟨W.heap.size, 0, none⟩) 1 1) [x] ∧ Below W5.heap.size W5 (W.alloc (.cells (KT.enc x).toArray KT.e))) := fun W b => by
    have b' : Below W5.heap.size W5 (W.alloc (.cells (KT.enc x).toArray KT.e)) := b.alloc b.size _
    exact ⟨⟨(OX.one16 KT (heap_alloc_last W _)).read, fun y hy => by rw [List.mem_singleton.1 hy]; exact XC5.out.below b'⟩, b'⟩
  have K5 : Hid (∀ W, Below W5.heap.size W5 W → Kg W ∧ Cst w W gc bm bc 0 0 TIP 0 (.map []) (.map []) ∧ W.heap[g2]? = some (.cells (hc TIP) 25 (0, 0)) ∧ W.heap[g4]? = some (.cells x.arr 90 (0, 0))) := fun W b => ⟨KS.out W (below_next C5.out.bel b), C5.out.next b, (b.block _ (lt_heap R5.out)).trans R5.out, (b.block _ (lt_heap Q5.out)).trans Q5.out⟩
  have S5 := hide (LS5.out W5 (Below.refl _ _))
  go_upto_region 7 with (first | (go_at_call 29; refine (HRt.out _ _ S5.out.1 (K5.out _ S5.out.2).1).mono ?_; rintro e W6 ⟨rfl, be⟩; have B6 := hide (below_next S5.out.2 be); clear be) | ((with_reducible refine at_list ?_); first | refine wpList_loadS AT _ rfl g4 rfl x.arr XZ.out 90 Q5.out (by rfl) ?_ | refine Ek.wpBs1 KT rfl _ rfl x rfl ?_ | refine wpList_allocA A25 rfl rfl ?_ | refine wpList_store_newA A25 rfl _ _ rfl _ rfl (hc RT) RZ.out.1 RZ.out.2 rfl rfl ?_))
  have B7 := hide (below_next B6.out ((Below.refl W6.heap.size W6).alloc (Nat.le_refl _) (.cells (hc RT) 25)))
  have R7 := hide (heap_alloc_last W6 (.cells (hc RT) 25))
  clear B6 S5 HRt
  generalize W6.alloc (.cells (hc RT) 25) = W7 at *
  generalize W6.heap.size = g6 at *
  have F7 := hide (K5.out _ B7.out)
  have S7 := hide (LS5.out W7 B7.out)
  have HDZ := hide (And.intro (show (bkA HD (.slice (some ⟨W7.heap.size, 0, none⟩) 1 1)).size = 69 from bkA_size _ _) (bkA_all HD (some ⟨W7.heap.size, 0, none⟩) 1 1))
  have BB7 := hide (fun W => BBk.out (some ⟨W7.heap.size, 0, none⟩) 1 1 W)
  have HC7 := hide (fun W c l => HC.out W (.slice (some ⟨W7.heap.size, 0, none⟩) 1 1) c l)
  clear BBk HC
  generalize bkA HD (.slice (some ⟨W7.heap.size, 0, none⟩) 1 1) = BK at *
  generalize HD.cells.toArray = HDC at *
  go_upto_region 8 with ((with_reducible refine at_list ?_); first | refine wpList_loadS A25 _ rfl g2 rfl (hc TIP) TZ.out.1 25 F7.out.2.2.1 (by rfl) ?_ | refine wpList_loadS A25 _ rfl g6 rfl (hc RT) RZ.out.1 25 R7.out (by rfl) ?_ | refine wpList_loadS AT _ rfl g4 rfl x.arr XZ.out 90 F7.out.2.2.2 (by rfl) ?_ | refine wpList_bldX (t := 27) rfl _ rfl #[(1, .agg (hc TIP)), (2, .agg (hc RT))] HDC (by simp only [List.map_toArray, List.map_cons, List.map_nil]; rfl) BHd.out ?_ | refine wpList_bldX (t := 30) rfl _ rfl #[(0, .agg HDC), (1, .slice (some ⟨W7.heap.size, 0, none⟩) 1 1)] BK (by simp only [List.map_toArray, List.map_cons, List.map_nil]; rfl) BB7.out ?_ | (refine Ek.wpBs1 KT rfl _ rfl x rfl ?_; generalize W7.alloc (.cells (KT.enc x).toArray KT.e) = W7c at *) | refine wpList_allocA ABk rfl rfl ?_ | refine wpList_store_newA ABk rfl (.tmp 8) (.tmp 36) rfl _ rfl BK HDZ.out.1 HDZ.out.2 (by simp only [Act.put, List.setIfInBounds_toArray, List.set_cons_zero, List.set_cons_succ]; rfl) (by simp only [Act.put, List.setIfInBounds_toArray, List.set_cons_zero, List.set_cons_succ]; rfl) ?_)
  have b8 := (Below.refl W7c.heap.size W7c).alloc (Nat.le_refl _) (.cells BK 30)
  have B8 := hide (below_next S7.out.2 b8)
  have L8 := hide (S7.out.1.below b8)
  have R8 := hide (heap_alloc_last W7c (.cells BK 30))
  clear F7 R7 BHd BB7 S7 LS5 b8
  generalize W7c.alloc (.cells BK 30) = W8 at *
  generalize W7c.heap.size = g8 at *
  have C8 := hide (K5.out _ B8.out).2.1
  have HC8 := hide (HC7.out _ C8.out L8.out)
  have HDZ1 := hide HDZ.out.1
  clear HDZ L8 HC7 K5
  go_upto_region 9 with (first | (go_at_call 16; refine HC8.out.mono ?_; rintro e W9 ⟨rfl, p, E, id, c9⟩; have C9 := hide c9; clear c9) | ((with_reducible refine at_list ?_); first | refine wpList_loadS ABk _ rfl g8 rfl BK HDZ1.out 30 R8.out (by rfl) ?_ | refine wpList_allocA AUn rfl rfl ?_ | refine wpList_store_newA AUn rfl _ _ rfl _ rfl #[.slice none 0 0] rfl rfl rfl rfl ?_))
  have CA := hide (C9.out.next ((Below.refl W9.heap.size W9).alloc (Nat.le_refl _) (.cells #[.slice none 0 0] 62)))
  clear C9 C8 HC8 R8
  generalize W9.alloc (.cells #[.slice none 0 0] 62) = WA at *
  have HL : Hid (Calls Tryz.prog 20 #[.pointer (some ⟨gc, 0, none⟩)] WA fun e w' => e = .returned (.int .i64 1) ∧ w' = WA) := lenV_any CA.out
  have HTt : Hid (Calls Tryz.prog 21 #[.pointer (some ⟨gc, 0, none⟩)] WA fun e w' => e = .returned (.int .u64 7) ∧ Below WA.heap.size WA w') := total_one p ⟨7, ⟨#[]⟩, 1, true⟩ CA.out
  have BA := hide CA.out.bel
  clear CA HDZ1 B8 Q5 XC5 C5 R5 RZ RL XK XZ TZ IT KA KS B7
  go_wp2_with (first | (go_at_call 20; refine HL.out.mono ?_; rintro r Wb ⟨rfl, h9⟩; subst Wb) | (go_at_call 21; refine HTt.out.mono ?_; rintro r Wc ⟨rfl, be⟩; have DC := hide be; clear be))
  go_ret
  exact ⟨rfl, below_next BA.out DC.out⟩
end
end Go.Proofs.YtofddbjnncgmlabGreatDoor
namespace Go.Proofs.YtofddbjnncgmlabGreatDoor
open Go.RowKit
open Go.Deep
open Go.Maps
set_option linter.unusedVariables false
set_option linter.unusedSimpArgs false
section
set_option maxRecDepth 10000
set_option maxHeartbeats 2000000
theorem tip_nil16 (w : World) : Calls Tryz.prog 12 #[.pointer none] w fun e w' => e = .returned (.tuple #[.agg (hc zeros), .int .i64 0]) ∧ Below w.heap.size w w' := by
  have ZZ := hide (And.intro (show (hc zeros).size = 32 by rw [hc_size, zeros_len]) (hc_one zeros))
  have R3 := hide (heap_alloc_last w (.cells (hc zeros) 25))
  have B1 := hide ((Below.refl w.heap.size w).alloc (Nat.le_refl _) (.cells (hc zeros) 25))
  go_enter Tryz.func12, Tryz.ntmps12
  go_upto_region 1 with ((with_reducible refine at_list ?_); refine wpList_allocA A25 rfl rfl ?_)
  generalize w.alloc (.cells (hc zeros) 25) = W0 at *
  go_wp2_with ((with_reducible refine at_list ?_); first | refine wpList_buildV A25 rfl (by rfl) ?_ | refine wpList_storeA A25 rfl _ _ rfl w.heap.size (hc zeros) ZZ.out.1 ZZ.out.2 rfl rfl (hc zeros) ZZ.out.1 25 R3.out ?_)
  exact bodyPost_ret (v := .tuple #[.agg (hc zeros), .int .i64 0]) (resA2K A25 Tryz.results12 _ _ w.heap.size 25 _ ZZ.out.1 rfl (setRow_heap _ _ _ _ _ _ R3.out) _ rfl) rfl ⟨rfl, below_setRow B1.out (Nat.le_refl _) _⟩
theorem len_nil16 (w : World) : Calls Tryz.prog 20 #[.pointer none] w fun e w' => e = .returned (.int .i64 0) ∧ w' = w := by
  go_enter Tryz.func20, Tryz.ntmps20
  go_wp2
  go_ret
  exact ⟨rfl, rfl⟩
theorem total_nil16 (w : World) : Calls Tryz.prog 21 #[.pointer none] w fun e w' => e = .returned (.int .u64 0) ∧ w' = w := by
  go_enter Tryz.func21, Tryz.ntmps21
  go_wp2
  go_ret
  exact ⟨rfl, rfl⟩
theorem all_nil16 (w : World) : Calls Tryz.prog 22 #[.pointer none] w fun e w' => e = .returned (.slice none 0 0) ∧ w' = w := by
  go_enter Tryz.func22, Tryz.ntmps22
  go_wp2
  go_ret
  exact ⟨rfl, rfl⟩
theorem bytes_nil16 (w : World) : Calls Tryz.prog 23 #[.pointer none] w fun e w' => e = .returned (.string ⟨#[]⟩) ∧ w' = w := by
  go_enter Tryz.func23, Tryz.ntmps23
  go_wp2
  go_ret
  exact ⟨rfl, rfl⟩
theorem clone_nil16 (w : World) : Calls Tryz.prog 14 #[.pointer none] w fun e w' => e = .returned (.pointer none) ∧ w' = w := by
  go_enter Tryz.func14, Tryz.ntmps14
  go_wp2
  go_ret
  exact ⟨rfl, rfl⟩
theorem sum_nil16 (w : World) (hK : Kg w) : Calls Tryz.prog 15 #[.pointer none] w fun e w' => e = .returned (.agg (hc (digest (digest [])))) ∧ Below w.heap.size w w' := by
  have ZZ := hide (And.intro (show (hc zeros).size = 32 by rw [hc_size, zeros_len]) (hc_one zeros))
  have DL := hide (show (digest (digest [])).length = 32 from digest_len _)
  have r1 := heap_alloc_last w (.cells (hc zeros) 25)
  have R3 := hide r1
  have b1 := (Below.refl w.heap.size w).alloc (Nat.le_refl _) (.cells (hc zeros) 25)
  have HY := hide bytes_nil16
  have HT := hide (twice_any ⟨#[]⟩ (by decide) _ (hK.next b1))
  change Hid (Calls Tryz.prog 45 #[.string ⟨#[]⟩] (w.alloc (.cells (hc zeros) 25)) fun e w' => e = .returned (.agg (hc (digest (digest [])))) ∧ Below (w.alloc (.cells (hc zeros) 25)).heap.size (w.alloc (.cells (hc zeros) 25)) w') at HT
  have B1 := hide b1
  clear b1 r1 hK
  generalize digest (digest []) = D at *
  have DZ := hide (And.intro (show (hc D).size = 32 by rw [hc_size, DL.out]) (hc_one D))
  go_enter Tryz.func15, Tryz.ntmps15
  go_upto_region 1 with ((with_reducible refine at_list ?_); refine wpList_allocA A25 rfl rfl ?_)
  generalize w.alloc (.cells (hc zeros) 25) = W0 at *
  go_wp2_with (first | (go_at_call 23; refine (HY.out _).mono ?_; rintro e W1 ⟨rfl, h9⟩; subst W1) | (go_at_call 45; refine HT.out.mono ?_; rintro e W2 ⟨rfl, be⟩; have D2 := hide be; have R4 := hide ((be.block _ (lt_heap R3.out)).trans R3.out); clear be) | ((with_reducible refine at_list ?_); refine wpList_storeA A25 rfl _ _ rfl w.heap.size (hc D) DZ.out.1 DZ.out.2 rfl rfl (hc zeros) ZZ.out.1 25 R4.out ?_))
  exact bodyPost_ret (v := .agg (hc D)) (resA A25 Tryz.results15 _ _ w.heap.size 25 _ DZ.out.1 rfl (setRow_heap _ _ _ _ _ _ R4.out)) rfl ⟨rfl, below_setRow (below_next B1.out D2.out) (Nat.le_refl _) _⟩
theorem mayStand_nil (h : Hd) (v : Value) (n : Int) (w : World) : Calls Tryz.prog 81 #[.pointer none, .agg (bkA h v), .int .i64 n] w fun e w' => e = .returned (.int .i64 1) ∧ Below w.heap.size w w' := by
  have B1 := hide ((Below.refl w.heap.size w).alloc (Nat.le_refl _) (.cells (bkA h v) 30))
  generalize bkA h v = C at *
  go_enter Tryz.func81, Tryz.ntmps81
  go_upto_region 1 with ((with_reducible refine at_list ?_); refine wpList_boxA rfl _ rfl C rfl ?_)
  generalize w.alloc (.cells C 30) = W0 at *
  go_wp2
  go_ret
  exact ⟨rfl, B1.out⟩
theorem play_nil (h : Hd) (v : Value) (n : Int) (w : World) : Calls Tryz.prog 46 #[.pointer none, .agg (bkA h v), .int .i64 n] w fun e w' => e = .returned (.tuple #[.pointer none, .int .i64 0, .int .i64 1]) ∧ Below w.heap.size w w' := by
  have R1 := hide (heap_alloc_last w (.cells (bkA h v) 30))
  have B1 := hide ((Below.refl w.heap.size w).alloc (Nat.le_refl _) (.cells (bkA h v) 30))
  have HM := hide (fun W => mayStand_nil h v n W)
  have BZ := hide (bkA_size h v)
  generalize bkA h v = C at *
  go_enter Tryz.func46, Tryz.ntmps46
  go_upto_region 1 with ((with_reducible refine at_list ?_); refine wpList_boxA rfl _ rfl C rfl ?_)
  generalize w.alloc (.cells C 30) = W0 at *
  go_wp2_with (first | (go_at_call 81; refine (HM.out _).mono ?_; rintro e W1 ⟨rfl, be⟩; have D1 := hide be; clear be) | ((with_reducible refine at_list ?_); refine wpList_loadS ABk _ rfl w.heap.size rfl C BZ.out 30 R1.out (by rfl) ?_))
  go_ret3
  exact ⟨rfl, below_next B1.out D1.out⟩
theorem would_nil (h : Hd) (v : Value) (n : Int) (w : World) : Calls Tryz.prog 17 #[.pointer none, .agg (bkA h v), .int .i64 n] w fun e w' => e = .returned (.tuple #[.int .u64 0, .int .i64 0, .int .i64 1]) ∧ Below w.heap.size w w' := by
  have R1 := hide (heap_alloc_last w (.cells (bkA h v) 30))
  have B1 := hide ((Below.refl w.heap.size w).alloc (Nat.le_refl _) (.cells (bkA h v) 30))
  have HM := hide (fun W => play_nil h v n W)
  have BZ := hide (bkA_size h v)
  generalize bkA h v = C at *
  go_enter Tryz.func17, Tryz.ntmps17
  go_upto_region 1 with ((with_reducible refine at_list ?_); refine wpList_boxA rfl _ rfl C rfl ?_)
  generalize w.alloc (.cells C 30) = W0 at *
  go_wp2_with (first | (go_at_call 46; refine (HM.out _).mono ?_; rintro e W1 ⟨rfl, be⟩; have D1 := hide be; clear be) | ((with_reducible refine at_list ?_); refine wpList_loadS ABk _ rfl w.heap.size rfl C BZ.out 30 R1.out (by rfl) ?_))
  go_ret3
  exact ⟨rfl, below_next B1.out D1.out⟩
theorem connect_nil (h : Hd) (v : Value) (n : Int) (w : World) : Calls Tryz.prog 16 #[.pointer none, .agg (bkA h v), .int .i64 n] w fun e w' => e = .returned (.tuple #[.agg #[.slice none 0 0], .int .i64 1]) ∧ Below w.heap.size w w' := by
  have r1 := heap_alloc_last w (.cells (bkA h v) 30)
  have b1 := (Below.refl w.heap.size w).alloc (Nat.le_refl _) (.cells (bkA h v) 30)
  have s1 : (w.alloc (.cells (bkA h v) 30)).heap.size = w.heap.size + 1 := by simp
  have B1 := hide (b1.alloc (by rw [s1]; omega) (.cells #[.slice none 0 0] 62))
  have R1 := hide ((Below.heap_alloc _ (.cells #[.slice none 0 0] 62) _ (lt_heap r1)).trans r1)
  have R2 := hide (heap_alloc_last (w.alloc (.cells (bkA h v) 30)) (.cells #[.slice none 0 0] 62))
  rw [s1] at R2
  have HM := hide (fun W => play_nil h v n W)
  have BZ := hide (bkA_size h v)
  clear r1 b1
  generalize bkA h v = C at *
  go_enter Tryz.func16, Tryz.ntmps16
  go_upto_region 1 with ((with_reducible refine at_list ?_); first | refine wpList_boxA rfl _ rfl C rfl ?_ | refine wpList_allocA AUn rfl rfl ?_)
  try rw [s1]
  clear s1
  generalize (w.alloc (.cells C 30)).alloc (.cells #[.slice none 0 0] 62) = W0 at *
  go_upto_region 3 with (first | (go_at_call 46; refine (HM.out _).mono ?_; rintro e W1 ⟨rfl, be⟩; have D1 := hide be; have R3 := hide ((be.block _ (lt_heap R2.out)).trans R2.out); clear be) | ((with_reducible refine at_list ?_); refine wpList_loadS ABk _ rfl w.heap.size rfl C BZ.out 30 R1.out (by rfl) ?_))
  have d6 : W1.cell? ⟨w.heap.size + 1, 0, none⟩ = some (.slice none 0 0) := by rw [cell_of_row _ _ _ _ _ _ R3.out]; rfl
  have f6 := frozen_of_row W1 (w.heap.size + 1) 0 _ _ R3.out
  go_wp2
  have r8 := heap_setCell_same W1 (w.heap.size + 1) 0 _ _ (.slice none 0 0) R3.out
  exact bodyPost_ret (v := .tuple #[.agg #[.slice none 0 0], .int .i64 1]) (resA2K AUn Tryz.results16 _ _ (w.heap.size + 1) 62 _ rfl rfl r8 _ rfl) rfl ⟨rfl, (below_next B1.out D1.out).setCell (p := ⟨w.heap.size + 1, 0, none⟩) (by show _ ≤ w.heap.size + 1; omega) _⟩
theorem disconnect_nil (h : Hd) (v : Value) (u : Value) (n : Int) (w : World) : Calls Tryz.prog 19 #[.pointer none, .agg (bkA h v), .agg #[u], .int .i64 n] w fun e w' => e = .returned (.int .i64 1) ∧ Below w.heap.size w w' := by
  have b1 := (Below.refl w.heap.size w).alloc (Nat.le_refl _) (.cells (bkA h v) 30)
  have B1 := hide (b1.alloc (by simp) (.cells #[u] 62))
  clear b1
  generalize bkA h v = C at *
  go_enter Tryz.func19, Tryz.ntmps19
  go_upto_region 1 with ((with_reducible refine at_list ?_); first | refine wpList_boxA rfl _ rfl C rfl ?_ | refine wpList_boxA rfl _ rfl #[u] rfl ?_)
  generalize (w.alloc (.cells C 30)).alloc (.cells #[u] 62) = W0 at *
  go_wp2
  go_ret
  exact ⟨rfl, B1.out⟩
theorem get_nil16 (p : Tp) (w : World) : Calls Tryz.prog 18 #[.pointer none, .agg p.cells.toArray] w fun e w' => e = .returned (.tuple #[.agg zCn.cells.toArray, .bool false]) ∧ Below w.heap.size w w' := by
  have b1 := (Below.refl w.heap.size w).alloc (Nat.le_refl _) (.cells p.cells.toArray 76)
  have s1 : (w.alloc (.cells p.cells.toArray 76)).heap.size = w.heap.size + 1 := by simp
  have B1 := hide (b1.alloc (by rw [s1]; omega) (.cells zCn.cells.toArray 72))
  have R2 := hide (heap_alloc_last (w.alloc (.cells p.cells.toArray 76)) (.cells zCn.cells.toArray 72))
  rw [s1] at R2
  clear b1
  generalize p.cells.toArray = C at *
  go_enter Tryz.func18, Tryz.ntmps18
  go_upto_region 1 with ((with_reducible refine at_list ?_); first | refine wpList_boxA rfl _ rfl C rfl ?_ | refine wpList_allocA ACn rfl rfl ?_)
  try rw [s1]
  clear s1
  change Code.wp _ _ _ _ ((w.alloc (.cells C 76)).alloc (.cells zCn.cells.toArray 72))
  generalize (w.alloc (.cells C 76)).alloc (.cells zCn.cells.toArray 72) = W0 at *
  have c0 : W0.cell? ⟨w.heap.size + 1, 0, none⟩ = some (.int .u64 0) := by rw [cell_of_row _ _ _ _ _ _ R2.out]; rfl
  have f0 := frozen_of_row W0 (w.heap.size + 1) 0 _ _ R2.out
  have c1 : W0.cell? ⟨w.heap.size + 1, 1, none⟩ = some (.string ⟨#[]⟩) := by rw [cell_of_row _ _ _ _ _ _ R2.out]; rfl
  have f1 := frozen_of_row W0 (w.heap.size + 1) 1 _ _ R2.out
  have c2 : W0.cell? ⟨w.heap.size + 1, 2, none⟩ = some (.int .i64 0) := by rw [cell_of_row _ _ _ _ _ _ R2.out]; rfl
  have f2 := frozen_of_row W0 (w.heap.size + 1) 2 _ _ R2.out
  have c3 : W0.cell? ⟨w.heap.size + 1, 3, none⟩ = some (.bool false) := by rw [cell_of_row _ _ _ _ _ _ R2.out]; rfl
  have f3 := frozen_of_row W0 (w.heap.size + 1) 3 _ _ R2.out
  go_wp2
  have e0 := heap_setCell_same _ (w.heap.size + 1) 0 _ _ (.int .u64 0) R2.out
  have e1 := heap_setCell_same _ (w.heap.size + 1) 1 _ _ (.string ⟨#[]⟩) e0
  have e2 := heap_setCell_same _ (w.heap.size + 1) 2 _ _ (.int .i64 0) e1
  have e3 := heap_setCell_same _ (w.heap.size + 1) 3 _ _ (.bool false) e2
  exact bodyPost_ret (v := .tuple #[.agg zCn.cells.toArray, .bool false]) (resA2K ACn Tryz.results18 _ _ (w.heap.size + 1) 72 zCn.cells.toArray rfl rfl e3 _ rfl) rfl ⟨rfl, (((B1.out.setCell (p := ⟨w.heap.size + 1, 0, none⟩) (by show _ ≤ w.heap.size + 1; omega) _).setCell (p := ⟨w.heap.size + 1, 1, none⟩) (by show _ ≤ w.heap.size + 1; omega) _).setCell (p := ⟨w.heap.size + 1, 2, none⟩) (by show _ ≤ w.heap.size + 1; omega) _).setCell (p := ⟨w.heap.size + 1, 3, none⟩) (by show _ ≤ w.heap.size + 1; omega) _⟩
end
end Go.Proofs.YtofddbjnncgmlabGreatDoor
namespace Go.Proofs.YtofddbjnncgmlabGreatDoor
open Go.RowKit
open Go.Deep
open Go.Maps
set_option linter.unusedVariables false
set_option linter.unusedSimpArgs false
section
set_option maxRecDepth 10000
set_option maxHeartbeats 16000000
theorem validNil_walk (w : World) (hK : Kg w) (h : Hd) (v : Value) (L : List Tq) (hL : LQ w v L) (hn : L.length * 64 ≤ 140737488355328) (n : Int) : Calls Tryz.prog 4 #[.agg (bkA h v), .int .i64 n] w fun r w' => r = .returned (.bool true) ∧ Below w.heap.size w w' := by
  have R1 := hide (heap_alloc_last w (.cells (bkA h v) 30))
  have b1 := (Below.refl w.heap.size w).alloc (Nat.le_refl _) (.cells (bkA h v) 30)
  have B1 := hide b1
  have KS : Hid (∀ W, Below (w.alloc (.cells (bkA h v) 30)).heap.size (w.alloc (.cells (bkA h v) 30)) W → Kg W) := fun W b => hK.next (below_next b1 b)
  have BZ := hide (bkA_size h v)
  have HC := hide (fun W => connect_nil h v n W)
  have HW := hide (fun W => would_nil h v n W)
  have HD := hide (fun W => disconnect_nil h v (.slice none 0 0) n W)
  have HG := hide (fun W => get_nil16 zTp W)
  have HT := hide tip_nil16
  have HA := hide (fun W q => awake16 W q)
  have HL := hide len_nil16
  have HTo := hide total_nil16
  have HAl := hide all_nil16
  have HB := hide bytes_nil16
  have HCl := hide clone_nil16
  have HS := hide (fun W q => sum_nil16 W q)
  have HR : Hid (∀ W, Calls Tryz.prog 24 #[.string ⟨#[]⟩] W fun e w' => e = .returned (.agg (hc (digest (digest [])))) ∧ Below W.heap.size W w') := fun W => rtwice_any ⟨#[]⟩ (by decide) W
  have DL : Hid ((digest (digest [])).length = 32) := digest_len _
  clear b1 hK hL hn
  generalize digest (digest []) = D at *
  have EQ : Hid (∀ W, (Op.equalIn 10000 25 (.agg (hc D)) (.agg (hc D))).run Tryz.prog W = .ok true W) := fun W => by
    have := eqC_bytes D D 32 DL.out DL.out 25 Tryz.underlying25 9998 W
    rwa [beq_self_eq_true] at this
  have EZ : Hid (∀ W, (Op.equalIn 10000 25 (.agg (hc zeros)) (.agg (hc zeros))).run Tryz.prog W = .ok true W) := fun W => by
    have := eqC_bytes zeros zeros 32 zeros_len zeros_len 25 Tryz.underlying25 9998 W
    rwa [beq_self_eq_true] at this
  have EG : Hid (Tryz.prog.eqGuardType Tryz.prog.depth 25 = false) := by show _ = _; kernel_rfl
  have ZZ := hide (And.intro (show (hc zeros).size = 32 by rw [hc_size, zeros_len]) (hc_one zeros))
  have CZ := hide (And.intro (show zCn.cells.toArray.size = 4 from rfl) zCn.all)
  generalize bkA h v = C at *
  go_enter Tryz.func4, Tryz.ntmps4
  go_upto_region 2 with ((with_reducible refine at_list ?_); refine wpList_boxA rfl _ rfl C rfl ?_)
  generalize w.alloc (.cells C 30) = W0 at *
  go_upto_region 3 with (first | (go_at_call 16; refine (HC.out _).mono ?_; rintro e W2 ⟨rfl, be⟩; have D2 := hide be; clear be) | ((with_reducible refine at_list ?_); first | refine wpList_loadS ABk _ rfl w.heap.size rfl C BZ.out 30 R1.out (by rfl) ?_ | refine wpList_allocA AUn rfl rfl ?_ | refine wpList_store_newA AUn rfl _ _ rfl _ rfl #[.slice none 0 0] rfl rfl rfl rfl ?_))
  have D3 := hide (below_next D2.out ((Below.refl W2.heap.size W2).alloc (Nat.le_refl _) (.cells #[.slice none 0 0] 62)))
  have U3 := hide (heap_alloc_last W2 (.cells #[.slice none 0 0] 62))
  clear D2 HC
  generalize W2.alloc (.cells #[.slice none 0 0] 62) = W3 at *
  generalize W2.heap.size = g6 at *
  have Q3 := hide ((D3.out.block _ (lt_heap R1.out)).trans R1.out)
  go_upto_region 4 with (first | (go_at_call 17; refine (HW.out _).mono ?_; rintro e W4 ⟨rfl, be⟩; have D4 := hide (below_next D3.out be); have U4 := hide ((be.block _ (lt_heap U3.out)).trans U3.out); clear be) | ((with_reducible refine at_list ?_); refine wpList_loadS ABk _ rfl w.heap.size rfl C BZ.out 30 Q3.out (by rfl) ?_))
  clear D3 U3 Q3 HW
  go_upto_region 5 with (first | (go_at_call 18; refine (HG.out _).mono ?_; rintro e W5 ⟨rfl, be⟩; have D5 := hide (below_next D4.out be); have U5 := hide ((be.block _ (lt_heap U4.out)).trans U4.out); clear be) | ((with_reducible refine at_list ?_); first | refine wpList_buildV APt rfl (by rfl) ?_ | refine wpList_allocA ACn rfl rfl ?_ | refine wpList_store_newA ACn rfl _ _ rfl _ rfl zCn.cells.toArray CZ.out.1 CZ.out.2 rfl rfl ?_))
  have b5 := (Below.refl W5.heap.size W5).alloc (Nat.le_refl _) (.cells zCn.cells.toArray 72)
  have D6 := hide (below_next D5.out b5)
  have U6 := hide ((b5.block _ (lt_heap U5.out)).trans U5.out)
  clear D4 U4 D5 U5 b5 HG CZ
  generalize W5.alloc (.cells zCn.cells.toArray 72) = W6 at *
  generalize W5.heap.size = g11 at *
  go_upto_region 6 with (first | (go_at_call 12; refine (HT.out _).mono ?_; rintro e W7 ⟨rfl, be⟩; have D7 := hide (below_next D6.out be); have U7 := hide ((be.block _ (lt_heap U6.out)).trans U6.out); clear be) | ((with_reducible refine at_list ?_); first | refine wpList_allocA A25 rfl rfl ?_ | refine wpList_store_newA A25 rfl _ _ rfl _ rfl (hc zeros) ZZ.out.1 ZZ.out.2 rfl rfl ?_))
  have b7 := (Below.refl W7.heap.size W7).alloc (Nat.le_refl _) (.cells (hc zeros) 25)
  have D8 := hide (below_next D7.out b7)
  have U8 := hide ((b7.block _ (lt_heap U7.out)).trans U7.out)
  have Z8 := hide (heap_alloc_last W7 (.cells (hc zeros) 25))
  clear D6 U6 D7 U7 b7 HT
  generalize W7.alloc (.cells (hc zeros) 25) = W8 at *
  generalize W7.heap.size = g13 at *
  have FF : Hid (∀ W, Below W8.heap.size W8 W → Kg W ∧ W.heap[w.heap.size]? = some (.cells C 30 (0, 0)) ∧ W.heap[g6]? = some (.cells #[.slice none 0 0] 62 (0, 0)) ∧ W.heap[g13]? = some (.cells (hc zeros) 25 (0, 0)) ∧ W.cell? ⟨g6, 0, none⟩ = some (.slice none 0 0)) := fun W b => by
    have u := (b.block _ (lt_heap U8.out)).trans U8.out
    exact ⟨KS.out W (below_next D8.out b), ((below_next D8.out b).block _ (lt_heap R1.out)).trans R1.out, u, (b.block _ (lt_heap Z8.out)).trans Z8.out, by rw [cell_of_row _ _ _ _ _ _ u]; rfl⟩
  have K8 := hide (FF.out _ (Below.refl _ _)).1
  have B8 := hide (below_next B1.out D8.out)
  clear KS R1 B1 D8 U8 Z8
  simp only [List.append]
  go_wp2_with (first | (go_at_call 6; refine (HA.out _ K8.out).mono ?_; rintro e Wa ⟨rfl, be⟩; have Da := hide be; have Fa := hide (FF.out _ be); have ca := (FF.out _ be).2.2.2.2; clear be) | (go_at_call 19; refine (HD.out _).mono ?_; rintro e Wb ⟨rfl, be⟩; have Db := hide (below_next Da.out be); have Fb := hide (FF.out _ (below_next Da.out be)); clear be ca) | (go_at_call 20; refine (HL.out _).mono ?_; rintro e Wz ⟨rfl, h9⟩; subst Wz) | (go_at_call 21; refine (HTo.out _).mono ?_; rintro e Wz ⟨rfl, h9⟩; subst Wz) | (go_at_call 22; refine (HAl.out _).mono ?_; rintro e Wz ⟨rfl, h9⟩; subst Wz) | (go_at_call 23; refine (HB.out _).mono ?_; rintro e Wz ⟨rfl, h9⟩; subst Wz) | (go_at_call 14; refine (HCl.out _).mono ?_; rintro e Wz ⟨rfl, h9⟩; subst Wz) | (go_at_call 15; refine (HS.out _ Fb.out.1).mono ?_; rintro e Wc ⟨rfl, be⟩; have Dc := hide (below_next Db.out be); clear be) | (go_at_call 24; refine (HR.out _).mono ?_; rintro e Wd ⟨rfl, be⟩; have Dd := hide (below_next Dc.out be); clear be) | ((with_reducible refine at_list ?_); first | refine wpList_loadS ABk _ rfl w.heap.size rfl C BZ.out 30 Fa.out.2.1 (by rfl) ?_ | refine wpList_loadS A25 _ rfl g13 rfl (hc zeros) ZZ.out.1 25 Fb.out.2.2.2.1 (by rfl) ?_ | refine wpList_buildV A25 rfl (by rfl) ?_ | refine wpList_eql 25 _ _ _ rfl (hc zeros) (hc zeros) rfl rfl (by rfl) EG.out true EZ.out ?_ | refine wpList_eql 25 _ _ _ rfl (hc D) (hc D) rfl rfl (by rfl) EG.out true EQ.out ?_))
  go_ret
  exact ⟨rfl, below_next B8.out Dd.out⟩
end
end Go.Proofs.YtofddbjnncgmlabGreatDoor
