/- The law ShaParts: its walk. -/
import Derived.Test.YtempdhoccilhdaaDoorS
namespace Go.Proofs.YtempdhoccilhdaaDoor
open Go.RowKit
open Go.Deep
/-- The first k parts, one behind the other. -/
def cat (F : Nat → ByteArray) : Nat → List UInt8
  | 0 => []
  | k + 1 => cat F k ++ (F k).data.toList
def ld30 (x : Value) : Sem Value := Instr.loadAt 30 x
theorem ld30_eq (x : Value) : Instr.loadAt 30 x = ld30 x := rfl
def sv30 (x y : Value) : Sem Unit := Instr.storeAt 30 x y
theorem sv30_eq (x y : Value) : Instr.storeAt 30 x y = sv30 x y := rfl
theorem sv30_row {w : World} {g : Nat} {c0 : Array Value} {t : TypeId} (hn : c0.size = 8) (hg : w.heap[g]? = some (.cells c0 t (0, 0))) (s : St) : (sv30 (.pointer (some ⟨g, 0, none⟩)) (.agg (uc s.list))).run Tryd.prog w = .ok () (w.setRow g (uc s.list)) := by
  unfold sv30
  simp only [Instr.storeAt, Instr.sureAddr, Sem.run_bind, Sem.run_pure, Result.andThen_ok]
  rw [run_storeVar_row w g t 30 c0 (uc s.list) hg A30.info (by rw [hn]; rfl) (uc_one _)]
/-- Where the parts lie. -/
def Parts (w : World) (ao : Option Addr) (n : Nat) (F : Nat → ByteArray) : Prop := ∀ i, i < n → ∃ g off, ao = some ⟨g, off, none⟩ ∧ g < w.heap.size ∧ w.cell? ⟨g, off + i, none⟩ = some (.string (F i))
/-- The load of a whole array, guarded or not. -/
theorem wpList_loadG {t : TypeId} {n : Nat} {z : Array Value} {w : World} {ops : Array Oper} {rest : List Oper} {o : Oper} {a : Act} {Q : Exit → Act → World → Prop} (A : Arr t n z) (x : Operand) (ho : o.op = .load t x) (g : Nat) (hx : a.eval x = .pointer (some ⟨g, 0, none⟩)) (c : Array Value) (hn : c.size = n) (t' : TypeId) (hg : w.heap[g]? = some (.cells c t' (0, 0))) (hw : Region.wanted o (yielded ops a.tmps) = true)
    (h : wpList Tryd.prog ops Q rest (a.put o.dst (.agg c)) w) : wpList Tryd.prog ops Q (o :: rest) a w := by
  refine wpList_step fun K hK => ?_
  rw [if_pos hw]
  unfold Oper.wp execOp
  simp only [ho, hx, Sem.run_bind, ld_row A hn hg, Result.andThen_ok, Sem.run_pure]
  exact hK _ _ h
theorem part_mid {w w8 w9 : World} {b : Nat} {t : List UInt8} {A : Obj} (H : Hat w8 b t) (B : Below w.heap.size w w8) (b9 : Below (w8.alloc A).heap.size (w8.alloc A) w9) : Hid (w9.heap[w8.heap.size]? = some A) ∧ Hid (Hat w9 b t) ∧ Hid (Below w.heap.size w w9) := by
  have b1 := (Below.refl w8.heap.size w8).alloc (Nat.le_refl _) A
  have b2 : Below w8.heap.size w8 w9 := b1.trans (b9.mono (by simp))
  exact ⟨(b9.block _ (by simp)).trans (heap_alloc_last _ _), H.below b2, B.trans (b2.mono B.size)⟩
attribute [local go_sem ↓] ld30_eq sv30_eq ld35_eq
section
set_option maxRecDepth 10000
set_option maxHeartbeats 4000000
theorem shaParts_walk (ao : Option Addr) (n cap : Nat) (F : Nat → ByteArray) (at_ : Int) (w : World) (hK : Kg w) (hn : n ≤ 1048576) (hp : Parts w ao n F) (hsum : ∀ k, k ≤ n → (cat F k).length ≤ 1048576) : Calls Tryd.prog 5 #[.slice ao n cap, .int .i64 at_] w fun e w' => e = .returned (.bool true) ∧ Below w.heap.size w w' := by
  have HA := hide fun W hW => awake_any W hW
  have HN := hide fun W => new_any W
  have HP := hide hp
  have HSM := hide hsum
  have HK := hide hK
  clear hp hsum hK
  go_enter Tryd.func5, Tryd.ntmps5
  go_wp2_with (first | (go_at_call 20; refine (HN.out _).mono ?_; rintro e w1 ⟨b, rfl, h1, b1, hb⟩; have H1 := hide h1; have B1 := hide b1; have hb0 : w.heap.size ≤ b := hb; clear h1 b1 hb) | (go_at_call 9; refine (HA.out _ (HK.out.next B1.out)).mono ?_; rintro e w2 ⟨rfl, b2⟩; have H2 := hide (H1.out.below b2); have B2 := hide (below_next B1.out b2); clear b2))
  have hbp : b ≠ 0 := by have := HK.out.pos; omega
  go_loopw [6, 7, 8, 9, 10, 11, 12, 13, 23] (fun v6 _ _ _ _ _ _ _ vc wr => ∃ (k : Nat) (X : ByteArray), k ≤ n ∧ vc = .int .i64 k ∧ v6 = .string X ∧ Hid (X.data.toList = cat F k) ∧ Hid (Hat wr b (cat F k)) ∧ Hid (Below w.heap.size w wr)) (fun _ _ _ _ _ _ _ _ vc _ => (n - intOf vc).toNat)
  case atStart => exact ⟨0, ⟨#[]⟩, by omega, rfl, rfl, rfl, H2, B2⟩
  case round =>
    clear H1 B1 H2 B2
    obtain ⟨k, X, hk, rfl, rfl, hX, HH, BB⟩ := hrel
    by_cases hlt : k < n
    · obtain ⟨g, off, rfl, hg, hc⟩ := HP.out k hlt
      have hcell : wr.cell? ⟨g, off + k, none⟩ = some (.string (F k)) := (BB.out.cell (p := ⟨g, off + k, none⟩) hg).trans hc
      have s0 := HSM.out k hk
      have s1 := HSM.out (k + 1) hlt
      have hXs : X.size = (cat F k).length := by rw [← hX.out]; simp
      have hcs : (cat F (k + 1)).length = (cat F k).length + (F k).size := by simp [cat]
      have k0 : (0 : Int) ≤ k := by omega
      have k1 : (k : Int) < n := by omega
      have HCT := hide (show cat F (k + 1) = cat F k ++ (F k).data.toList from rfl)
      clear hc
      generalize hT : cat F k = T at *
      generalize hT2 : cat F (k + 1) = T2 at *
      generalize hP : F k = P at *
      have HC := hide fun W hW => clone_any b T W hW
      have HS := hide fun c W hW hH => hsum_any c T W hW (by omega) hH
      have e1 := hide fun W => eqb 25 32 Tryd.underlying25 (digest T) (digest_len _) W
      generalize digest T = D at *
      have hTP : T.length + P.size ≤ 1048576 := by omega
      have HW := hide fun W hW hH => write_any b T P W hW hbp (by omega) hH
      have hPX : (X ++ P).size = T2.length := by rw [ByteArray.size_append]; omega
      have hPT : Hid ((X ++ P).data.toList = T2) := by
        show (X ++ P).data.toList = T2
        rw [HCT.out, ← hX.out]; simp
      clear hcs
      by_cases hat : (k : Int) = at_
      · subst hat
        go_upto_region 13 with (first | (go_at_call 21; refine (HC.out _ HH.out).mono ?_; rintro e w3 ⟨c, rfl, h3, b3, hcb⟩; have H3 := hide h3; have HH3 := hide (HH.out.below b3); have B3 := hide (below_next BB.out b3); have hcb0 : wr.heap.size ≤ c := hcb; clear h3 b3 hcb) | fail)
        refine (HS.out c _ (HK.out.next B3.out) H3.out).mono ?_
        rintro e w4 ⟨rfl, b4⟩
        have H4 := hide (H3.out.below b4)
        have HH4 := hide (HH3.out.below b4)
        have B4 := hide (below_next B3.out b4)
        have hbc : b ≠ c := by have := HH.out.lt; omega
        clear b4 H3 HH3 B3
        go_upto_region 13 with fail
        refine (HS.out b _ (HK.out.next B4.out) HH4.out).mono ?_
        rintro e w5 ⟨rfl, b5⟩
        have H5 := hide (H4.out.below b5)
        have HH5 := hide (HH4.out.below b5)
        have B5 := hide (below_next B4.out b5)
        clear b5 H4 HH4 B4
        go_upto_region 13 with (refine wpList_neq 25 _ _ _ rfl (hc D) (hc D) rfl rfl rfl eqg25 true e1.out ?_)
        have hot : (⟨#[111, 116, 104, 101, 114]⟩ : ByteArray).size = 5 := rfl
        refine (write_any c T ⟨#[111, 116, 104, 101, 114]⟩ _ (HK.out.next B5.out) (by have := BB.out.size; have := HK.out.pos; omega) (by omega) H5.out).mono ?_
        rintro e w6 ⟨rfl, _, r6⟩
        have HY := hide (HH5.out.rfr hbc r6)
        have BY := hide (B5.out.trans (r6.to_below (by have := BB.out.size; omega) B5.out.size))
        clear r6 H5 HH5 B5
        go_wp2_with fail
        -- the part is written, the state is asked
        refine (HW.out _ (HK.out.next BY.out) HY.out).mono ?_
        rintro e w7 ⟨rfl, h7, r7⟩
        rw [← HCT.out] at h7
        have H7 := hide h7
        have B7 := hide (BY.out.trans (r7.to_below hb0 BY.out.size))
        clear h7 r7 HY BY
        have HST := hide fun W hW => state_any b T2 W hW
        generalize hSS : stN T2 (T2.length / 64) = SS at *
        have HSS := hide hSS
        clear hSS
        generalize hRR : (⟨(rest T2).toArray⟩ : ByteArray) = RR at *
        have HRR := hide hRR
        clear hRR
        have HRF := hide fun W => rfirst_any W
        go_upto_region 17 with (first | (go_at_call 24; refine (HST.out _ H7.out).mono ?_; rintro e w8 ⟨rfl, b8⟩; have H8 := hide (H7.out.below b8); have B8 := hide (below_next B7.out b8); clear b8) | refine wpList_allocA A31 rfl rfl ?_ | refine wpList_store_newA A31 rfl _ _ rfl _ rfl (uc SS.list) rfl (uc_one _) rfl rfl ?_ | (go_at_call 17; refine (HRF.out _).mono ?_; rintro e w9 ⟨rfl, b9⟩; obtain ⟨x9, H9, B9⟩ := part_mid H8.out B8.out b9; clear b9) | refine wpList_allocA A30 rfl rfl ?_ | refine wpList_store_newA A30 rfl _ _ rfl _ rfl (uc first.list) rfl (uc_one _) rfl rfl ?_)
        go_wp2
        have g12 := hide (heap_alloc_last w9 (.cells (uc first.list) 30))
        have x12 := hide ((Below.heap_alloc _ (.cells (uc first.list) 30) _ (lt_heap x9.out)).trans x9.out)
        have H12 := hide (H9.out.below ((Below.refl w9.heap.size w9).alloc (Nat.le_refl _) (.cells (uc first.list) 30)))
        have B12 := hide (B9.out.alloc B9.out.size (.cells (uc first.list) 30))
        have g10l : w8.heap.size < w9.heap.size := lt_heap x9.out
        have blt : b < w9.heap.size := H9.out.lt
        have hw9 : w.heap.size ≤ w9.heap.size := B9.out.size
        clear H7 B7 H8 B8 x9 H9 B9
        generalize w9.alloc (.cells (uc first.list) 30) = W9 at *
        generalize w9.heap.size = g9 at *
        generalize w8.heap.size = g8 at *
        generalize hXP : X ++ P = XP at *
        have hXl : XP.data.toList.length = XP.size := by simp
        have hX3 : XP.size ≤ 1048576 := by omega
        clear hXP
        go_loopw [13] (fun c wx => ∃ j : Nat, 64 * j ≤ XP.size ∧ c = .int .i64 (64 * (j : Int)) ∧ Hid (wx.heap[g8]? = some (.cells (uc SS.list) 31 (0, 0))) ∧ Hid (wx.heap[g9]? = some (.cells (uc (stN XP.data.toList j).list) 30 (0, 0))) ∧ Hid (Hat wx b T2) ∧ Hid (Below w.heap.size w wx)) (fun c _ => (XP.size - intOf c).toNat)
        case atStart => exact ⟨0, by omega, rfl, x12, g12, H12, B12⟩
        case round =>
          clear x12 g12 H12 B12
          obtain ⟨j, hj, rfl, r0, r1, hH, bb⟩ := hrel
          by_cases hjl : 64 * j + 64 ≤ XP.size
          · have hlt' : 64 * (j : Int) + 64 ≤ XP.size := by omega
            have e1 : (64 * (j : Int)).toNat = 64 * j := by omega
            have e2 : (64 * (j : Int) + 64).toNat = 64 * j + 64 := by omega
            have a0 : (0 : Int) ≤ 64 * j := by omega
            have a1 : 64 * (j : Int) ≤ 64 * j + 64 := by omega
            have q1 : IntKind.i64.wrap (64 * (j : Int) + 64) = 64 * j + 64 := wrapI _ (by omega) (by omega)
            have hxs : (XP.extract (64 * j) (64 * j + 64)).size = 64 := by simp; omega
            obtain ⟨c1, W1, hcv, hb1, hld⟩ := conv_str wr.drew (XP.extract (64 * j) (64 * j + 64)) hxs
            rw [cut_list, show 64 * j + 64 - 64 * j = 64 by omega] at hld
            have hbl := bk_len XP.data.toList j (by omega)
            have HST := hide fun W => rstep_any (stN XP.data.toList j) ((XP.data.toList.drop (64 * j)).take 64) hbl W
            rw [show step (stN XP.data.toList j) ((XP.data.toList.drop (64 * j)).take 64) = stN XP.data.toList (j + 1) from rfl] at HST
            generalize hB : (XP.data.toList.drop (64 * j)).take 64 = Bk at *
            generalize hS1 : stN XP.data.toList j = S1 at *
            generalize hS2 : stN XP.data.toList (j + 1) = S2 at *
            have HS2 := hide hS2
            clear hB hS1 hS2
            have l1 : (ld30 (.pointer (some ⟨g9, 0, none⟩))).run Tryd.prog wr.drew = .ok (.agg (uc S1.list)) wr.drew := ld_row A30 rfl (W := wr.drew) r1.out
            have r1' : W1.heap[g9]? = some (.cells (uc S1.list) 30 (0, 0)) := (hb1.block g9 (lt_heap r1.out)).trans r1.out
            have l2 : (ld30 (.pointer (some ⟨g9, 0, none⟩))).run Tryd.prog W1 = .ok (.agg (uc S1.list)) W1 := ld_row A30 rfl r1'
            have R1 := hide r1'
            have R0 := hide ((hb1.block g8 (lt_heap r0.out)).trans r0.out)
            have RH : Hid (Hat W1 b T2) := hH.out.of_block (hb1.block b hH.out.lt)
            have B1 : Hid (Below w.heap.size w W1) := (bb.out.drew).trans (hb1.mono bb.out.size)
            have har := fun W => run_arrayAt (P := Tryd.prog) W 35 5 64 (some ⟨wr.heap.size, 0, none⟩) 64 c1 Tryd.underlying35 (Nat.le_refl _)
            have hrs : wr.drew.heap.size = wr.heap.size := rfl
            rw [hrs] at hcv hld
            clear hb1 r1' hrs
            go_wp2
            go_region_with (go_at_call 19; refine (HST.out _).mono ?_; rintro e w5 ⟨rfl, b5⟩; have p0 := hide ((b5.block _ (lt_heap R0.out)).trans R0.out); have p1 := hide ((b5.block _ (lt_heap R1.out)).trans R1.out); have pH := hide (RH.out.below b5); have pb := hide (B1.out.trans (b5.mono B1.out.size)); have hsv := sv30_row (c0 := uc S1.list) rfl p1.out S2; clear b5)
            all_goals go_wp2
            all_goals exact ⟨⟨j + 1, by omega, by congr 1, hide ((setRow_other _ _ _ _ (by omega)).trans p0.out), hide (by rw [HS2.out]; exact setRow_heap _ _ _ _ _ _ p1.out), hide (pH.out.of_block (setRow_other _ _ _ _ (by omega))), hide (below_setRow pb.out hw9 _)⟩, by simp [intOf]; omega⟩
          · have hjd : T2.length / 64 = j := by omega
            have hS : stN XP.data.toList j = SS := by rw [hPT.out, ← hjd]; exact HSS.out
            rw [hS] at r1
            have HLN := hide fun W hW => len_any b T2 W hW
            have hlt' : ¬ 64 * (j : Int) + 64 ≤ XP.size := by omega
            have c1 : ((T2.length : Int) != (XP.size : Int)) = false := by rw [hPX]; simp
            have w1 : IntKind.u64.wrap (XP.size : Int) = (XP.size : Int) := wrapu _ (by omega) (by omega)
            have e3 := hide fun W => eq31 SS W
            have hdv : (XP.size : Int) / 64 * 64 = 64 * (j : Int) := by omega
            have e1 : (64 * (j : Int)).toNat = 64 * j := by omega
            have a0 : (0 : Int) ≤ 64 * j := by omega
            have a1 : 64 * (j : Int) ≤ XP.size := by omega
            have hxr : XP.extract (j * 64) T2.length = RR := by
              rw [← hPX, Nat.mul_comm]
              apply ByteArray.ext
              apply Array.ext'
              rw [ext_list, hPT.out, ← HRR.out, ← hjd]
              rfl
            clear hS
            go_wp2_with (first | (go_at_call 25; refine (HLN.out _ hH.out).mono ?_; rintro e w5 ⟨rfl, rfl⟩) | refine wpList_loadG A31 _ rfl _ rfl (uc SS.list) rfl 31 r0.out rfl ?_ | refine wpList_loadG A30 _ rfl _ rfl (uc SS.list) rfl 30 r1.out rfl ?_ | refine wpList_neq 31 _ _ _ rfl (uc SS.list) (uc SS.list) rfl rfl rfl eqg31 true e3.out ?_)
            exact ⟨⟨k + 1, XP, hlt, by go_num, rfl, hide (by rw [hT2]; exact hPT.out), hide (by rw [hT2]; exact hH.out), bb⟩, by simp [intOf]; omega⟩
      · have hat' : ((k : Int) == at_) = false := by simp [hat]
        clear hat
        go_wp2_with fail
        have HY := HH
        have BY := BB
        -- the part is written, the state is asked
        refine (HW.out _ (HK.out.next BY.out) HY.out).mono ?_
        rintro e w7 ⟨rfl, h7, r7⟩
        rw [← HCT.out] at h7
        have H7 := hide h7
        have B7 := hide (BY.out.trans (r7.to_below hb0 BY.out.size))
        clear h7 r7 HY BY
        have HST := hide fun W hW => state_any b T2 W hW
        generalize hSS : stN T2 (T2.length / 64) = SS at *
        have HSS := hide hSS
        clear hSS
        generalize hRR : (⟨(rest T2).toArray⟩ : ByteArray) = RR at *
        have HRR := hide hRR
        clear hRR
        have HRF := hide fun W => rfirst_any W
        go_upto_region 17 with (first | (go_at_call 24; refine (HST.out _ H7.out).mono ?_; rintro e w8 ⟨rfl, b8⟩; have H8 := hide (H7.out.below b8); have B8 := hide (below_next B7.out b8); clear b8) | refine wpList_allocA A31 rfl rfl ?_ | refine wpList_store_newA A31 rfl _ _ rfl _ rfl (uc SS.list) rfl (uc_one _) rfl rfl ?_ | (go_at_call 17; refine (HRF.out _).mono ?_; rintro e w9 ⟨rfl, b9⟩; obtain ⟨x9, H9, B9⟩ := part_mid H8.out B8.out b9; clear b9) | refine wpList_allocA A30 rfl rfl ?_ | refine wpList_store_newA A30 rfl _ _ rfl _ rfl (uc first.list) rfl (uc_one _) rfl rfl ?_)
        go_wp2
        have g12 := hide (heap_alloc_last w9 (.cells (uc first.list) 30))
        have x12 := hide ((Below.heap_alloc _ (.cells (uc first.list) 30) _ (lt_heap x9.out)).trans x9.out)
        have H12 := hide (H9.out.below ((Below.refl w9.heap.size w9).alloc (Nat.le_refl _) (.cells (uc first.list) 30)))
        have B12 := hide (B9.out.alloc B9.out.size (.cells (uc first.list) 30))
        have g10l : w8.heap.size < w9.heap.size := lt_heap x9.out
        have blt : b < w9.heap.size := H9.out.lt
        have hw9 : w.heap.size ≤ w9.heap.size := B9.out.size
        clear H7 B7 H8 B8 x9 H9 B9
        generalize w9.alloc (.cells (uc first.list) 30) = W9 at *
        generalize w9.heap.size = g9 at *
        generalize w8.heap.size = g8 at *
        generalize hXP : X ++ P = XP at *
        have hXl : XP.data.toList.length = XP.size := by simp
        have hX3 : XP.size ≤ 1048576 := by omega
        clear hXP
        go_loopw [13] (fun c wx => ∃ j : Nat, 64 * j ≤ XP.size ∧ c = .int .i64 (64 * (j : Int)) ∧ Hid (wx.heap[g8]? = some (.cells (uc SS.list) 31 (0, 0))) ∧ Hid (wx.heap[g9]? = some (.cells (uc (stN XP.data.toList j).list) 30 (0, 0))) ∧ Hid (Hat wx b T2) ∧ Hid (Below w.heap.size w wx)) (fun c _ => (XP.size - intOf c).toNat)
        case atStart => exact ⟨0, by omega, rfl, x12, g12, H12, B12⟩
        case round =>
          clear x12 g12 H12 B12
          obtain ⟨j, hj, rfl, r0, r1, hH, bb⟩ := hrel
          by_cases hjl : 64 * j + 64 ≤ XP.size
          · have hlt' : 64 * (j : Int) + 64 ≤ XP.size := by omega
            have e1 : (64 * (j : Int)).toNat = 64 * j := by omega
            have e2 : (64 * (j : Int) + 64).toNat = 64 * j + 64 := by omega
            have a0 : (0 : Int) ≤ 64 * j := by omega
            have a1 : 64 * (j : Int) ≤ 64 * j + 64 := by omega
            have q1 : IntKind.i64.wrap (64 * (j : Int) + 64) = 64 * j + 64 := wrapI _ (by omega) (by omega)
            have hxs : (XP.extract (64 * j) (64 * j + 64)).size = 64 := by simp; omega
            obtain ⟨c1, W1, hcv, hb1, hld⟩ := conv_str wr.drew (XP.extract (64 * j) (64 * j + 64)) hxs
            rw [cut_list, show 64 * j + 64 - 64 * j = 64 by omega] at hld
            have hbl := bk_len XP.data.toList j (by omega)
            have HST := hide fun W => rstep_any (stN XP.data.toList j) ((XP.data.toList.drop (64 * j)).take 64) hbl W
            rw [show step (stN XP.data.toList j) ((XP.data.toList.drop (64 * j)).take 64) = stN XP.data.toList (j + 1) from rfl] at HST
            generalize hB : (XP.data.toList.drop (64 * j)).take 64 = Bk at *
            generalize hS1 : stN XP.data.toList j = S1 at *
            generalize hS2 : stN XP.data.toList (j + 1) = S2 at *
            have HS2 := hide hS2
            clear hB hS1 hS2
            have l1 : (ld30 (.pointer (some ⟨g9, 0, none⟩))).run Tryd.prog wr.drew = .ok (.agg (uc S1.list)) wr.drew := ld_row A30 rfl (W := wr.drew) r1.out
            have r1' : W1.heap[g9]? = some (.cells (uc S1.list) 30 (0, 0)) := (hb1.block g9 (lt_heap r1.out)).trans r1.out
            have l2 : (ld30 (.pointer (some ⟨g9, 0, none⟩))).run Tryd.prog W1 = .ok (.agg (uc S1.list)) W1 := ld_row A30 rfl r1'
            have R1 := hide r1'
            have R0 := hide ((hb1.block g8 (lt_heap r0.out)).trans r0.out)
            have RH : Hid (Hat W1 b T2) := hH.out.of_block (hb1.block b hH.out.lt)
            have B1 : Hid (Below w.heap.size w W1) := (bb.out.drew).trans (hb1.mono bb.out.size)
            have har := fun W => run_arrayAt (P := Tryd.prog) W 35 5 64 (some ⟨wr.heap.size, 0, none⟩) 64 c1 Tryd.underlying35 (Nat.le_refl _)
            have hrs : wr.drew.heap.size = wr.heap.size := rfl
            rw [hrs] at hcv hld
            clear hb1 r1' hrs
            go_wp2
            go_region_with (go_at_call 19; refine (HST.out _).mono ?_; rintro e w5 ⟨rfl, b5⟩; have p0 := hide ((b5.block _ (lt_heap R0.out)).trans R0.out); have p1 := hide ((b5.block _ (lt_heap R1.out)).trans R1.out); have pH := hide (RH.out.below b5); have pb := hide (B1.out.trans (b5.mono B1.out.size)); have hsv := sv30_row (c0 := uc S1.list) rfl p1.out S2; clear b5)
            all_goals go_wp2
            all_goals exact ⟨⟨j + 1, by omega, by congr 1, hide ((setRow_other _ _ _ _ (by omega)).trans p0.out), hide (by rw [HS2.out]; exact setRow_heap _ _ _ _ _ _ p1.out), hide (pH.out.of_block (setRow_other _ _ _ _ (by omega))), hide (below_setRow pb.out hw9 _)⟩, by simp [intOf]; omega⟩
          · have hjd : T2.length / 64 = j := by omega
            have hS : stN XP.data.toList j = SS := by rw [hPT.out, ← hjd]; exact HSS.out
            rw [hS] at r1
            have HLN := hide fun W hW => len_any b T2 W hW
            have hlt' : ¬ 64 * (j : Int) + 64 ≤ XP.size := by omega
            have c1 : ((T2.length : Int) != (XP.size : Int)) = false := by rw [hPX]; simp
            have w1 : IntKind.u64.wrap (XP.size : Int) = (XP.size : Int) := wrapu _ (by omega) (by omega)
            have e3 := hide fun W => eq31 SS W
            have hdv : (XP.size : Int) / 64 * 64 = 64 * (j : Int) := by omega
            have e1 : (64 * (j : Int)).toNat = 64 * j := by omega
            have a0 : (0 : Int) ≤ 64 * j := by omega
            have a1 : 64 * (j : Int) ≤ XP.size := by omega
            have hxr : XP.extract (j * 64) T2.length = RR := by
              rw [← hPX, Nat.mul_comm]
              apply ByteArray.ext
              apply Array.ext'
              rw [ext_list, hPT.out, ← HRR.out, ← hjd]
              rfl
            clear hS
            go_wp2_with (first | (go_at_call 25; refine (HLN.out _ hH.out).mono ?_; rintro e w5 ⟨rfl, rfl⟩) | refine wpList_loadG A31 _ rfl _ rfl (uc SS.list) rfl 31 r0.out rfl ?_ | refine wpList_loadG A30 _ rfl _ rfl (uc SS.list) rfl 30 r1.out rfl ?_ | refine wpList_neq 31 _ _ _ rfl (uc SS.list) (uc SS.list) rfl rfl rfl eqg31 true e3.out ?_)
            exact ⟨⟨k + 1, XP, hlt, by go_num, rfl, hide (by rw [hT2]; exact hPT.out), hide (by rw [hT2]; exact hH.out), bb⟩, by simp [intOf]; omega⟩
    · have hke : k = n := by omega
      subst hke
      have hXz : X.size = (cat F k).length := by rw [← hX.out]; simp
      have s0 := HSM.out k (Nat.le_refl _)
      have HS := hide fun W hW hH => hsum_any b (cat F k) W hW (by omega) hH
      have HR := hide fun W => rsum_any X (by omega) W
      have HU := hide fun W hW => sum_any X (by omega) W hW
      rw [hX.out] at HR HU
      have e1 := hide fun W => eqb 25 32 Tryd.underlying25 (digest (cat F k)) (digest_len _) W
      generalize digest (cat F k) = D at *
      go_wp2_with (first | (go_at_call 22; refine (HS.out _ (HK.out.next BB.out) HH.out).mono ?_; rintro e w1 ⟨rfl, b1⟩; have H1 := hide (HH.out.below b1); have B1 := hide (below_next BB.out b1); clear b1) | (go_at_call 11; refine (HR.out _).mono ?_; rintro e w2 ⟨rfl, b2⟩; have H2 := hide (H1.out.below b2); have B2 := hide (below_next B1.out b2); clear b2) | (go_at_call 22; refine (HS.out _ (HK.out.next B2.out) H2.out).mono ?_; rintro e w3 ⟨rfl, b3⟩; have B3 := hide (below_next B2.out b3); clear b3) | (go_at_call 10; refine (HU.out _ (HK.out.next B3.out)).mono ?_; rintro e w4 ⟨rfl, b4⟩; have B4 := hide (below_next B3.out b4); clear b4) | refine wpList_eql 25 _ _ _ rfl (hc D) (hc D) rfl rfl rfl eqg25 true e1.out ?_)
      go_ret
      exact ⟨rfl, B4.out⟩
end
end Go.Proofs.YtempdhoccilhdaaDoor
