/- The contract of the document's Next. The contracts of the statements' given, same and few. The contracts of the library's Len64 and Len, of Depth and the document's Depth. Levels, the contracts of Root and of the statements' awake. -/
import Derived.Test.YtofddbjnncgmlabGreatDoorX24
import Derived.Test.YtofddbjnncgmlabGreatDoorX12
namespace Go.Proofs.YtofddbjnncgmlabGreatDoor
open Go.RowKit
open Go.Deep
def ldg (x : Value) : Sem Value := Instr.loadAt 24 x
theorem ldg_eq (x : Value) : Instr.loadAt 24 x = ldg x := rfl
def bsg (x : Value) : Sem Value := Instr.buildSlice 170 1 #[(0, x)]
theorem bsg_eq (x : Value) : Instr.buildSlice 170 1 #[(0, x)] = bsg x := rfl
theorem mt_even (n k : Nat) : mtM n (2 * k) = if 2 * k + 1 < n then 2 * k + 1 else 2 * k := by
  have h : 2 * k % 2 = 0 := by omega
  simp only [mtM, h, if_true]
attribute [-go_sem] Instr.buildSlice
attribute [local go_sem ↓] ldg_eq
attribute [local go_sem] bsg_eq
section
set_option maxRecDepth 10000
set_option maxHeartbeats 4000000
theorem rnext_any (v : Value) (L : List (List UInt8)) (w : World) (hL : LH w v L) (hn : L.length < 4398046511104) : Calls Tryz.prog 115 #[v] w fun e w' => ∃ v', e = .returned (.tuple #[v', .bool (twb L)]) ∧ Oj 24 w w' v' (nxt L) := by
  obtain ⟨ao, cap, rfl⟩ := hL.form
  have HL := hide hL
  have HN := hide hn
  have H3 := hide hL.1
  have J0 : Hid (Oj 24 w (w.alloc (.cells #[] 24)) (.slice (some ⟨w.heap.size, 0, none⟩) 0 0) (nxK L 0)) := ⟨OH.new0 w, (Below.refl _ _).alloc (Nat.le_refl _) _, fun g hg => by cases hg; exact Nat.le_refl _⟩
  clear hL
  go_enter Tryz.func115, Tryz.ntmps115
  go_wp2_with (refine ET.wpBs0 ER rfl rfl ?_)
  generalize w.alloc (.cells #[] 24) = W0 at *
  go_loopw [4, 5, 6] (fun v s d wr => ∃ k : Nat, k ≤ (L.length + 1) / 2 ∧ s = .bool (twK L (min k (L.length / 2))) ∧ d = .int .i64 ((2 * k : Nat) : Int) ∧ Hid (Oj 24 w wr v (nxK L k))) (fun _ _ d _ => (L.length + 2 - intOf d).toNat)
  case atStart => exact ⟨0, Nat.zero_le _, rfl, rfl, J0⟩
  case round =>
    clear J0
    obtain ⟨k, hk, rfl, rfl, J⟩ := hrel
    have hn := HN.out
    by_cases hlt : 2 * k < L.length
    · obtain ⟨g, off, rfl⟩ := HL.out.base (by omega)
      have h1 : ((2 * k : Nat) : Int) < (L.length : Int) := by omega
      have e2 : IntKind.i64.wrap (((2 * k : Nat) : Int) + 2) = ((2 * (k + 1) : Nat) : Int) := by rw [wrapI _ (by omega) (by omega)]; omega
      have e3 : IntKind.i64.wrap (((2 * k : Nat) : Int) + 1) = ((2 * k + 1 : Nat) : Int) := by rw [wrapI _ (by omega) (by omega)]; omega
      have h2 : (0 : Int) ≤ ((2 * k : Nat) : Int) := by omega
      have KK := hide (And.intro (show k + 1 ≤ (L.length + 1) / 2 by omega) (show ((L.length : Int) + 2 - ((2 * (k + 1) : Nat) : Int)).toNat < ((L.length : Int) + 2 - ((2 * k : Nat) : Int)).toNat by omega))
      have SZ := hide (show (nxK L k).length + 1 ≤ 4398046511104 by rw [nxK_len]; omega)
      have SN := hide (nxK_snoc L k)
      have l1 := hide (H3.out.at (2 * k) (by omega))
      by_cases hodd : 2 * k + 1 = L.length
      · have hnx : nx L k = pr (ia L (2 * k)) (ia L (2 * k)) := by
          unfold nx
          rw [mt_even, if_neg (by omega)]
        rw [hnx] at SN
        have HT := hide (show min (k + 1) (L.length / 2) = min k (L.length / 2) by omega)
        have h5 : (((2 * k + 1 : Nat) : Int) == (L.length : Int)) = true := by simp; omega
        have ld1 : (ldg (.pointer (some ⟨g, off + (2 * k) * 32, none⟩))).run Tryz.prog wr.drew = .ok (.agg (hc (ia L (2 * k)))) wr.drew := ER.load l1.out ((HL.out.below J.out.bel.drew).range _ hlt)
        have HP := hide fun W => rpair_any _ _ l1.out l1.out W
        have hpl := pr_len (ia L (2 * k)) (ia L (2 * k))
        generalize hia : ia L (2 * k) = A at *
        generalize hpr : pr A A = P at *
        have PL := hide hpl
        have bs : ∀ W, (bsg (.agg (hc P))).run Tryz.prog W = .ok (.slice (some ⟨W.heap.size, 0, none⟩) 1 1) (W.alloc (.cells (hc P) 24)) := fun W => ER.bs1 W P hpl
        obtain ⟨sm, hsm⟩ : ∃ sm, sm = twK L (min k (L.length / 2)) := ⟨_, rfl⟩
        have HSM := hide hsm
        rw [← hsm]
        clear hia hpr hpl hk hn hnx hodd hlt hsm
        generalize hp : 2 * (k + 1) = p3 at *
        have HP3 := hide hp
        clear hp
        generalize 2 * k + 1 = p2 at *
        generalize 2 * k = p1 at *
        go_upto_region 6 with fail
        go_region_law ((first | (go_simp; go_at_call 140; refine (HP.out _).mono ?_; rintro e w1 ⟨rfl, be⟩; have J1 := hide (J.out.drew.next be); have J2 := hide (J1.out.next ((Below.refl _ _).alloc (Nat.le_refl _) (.cells (hc P) 24))); clear be) | (refine ET.step ER (by rfl) _ _ (by rfl) _ _ (by rfl) J2.out.own ⟨_, 0, none⟩ P PL.out (by rfl) (one_newH _ _) SZ.out ?_; intro v' w3 hown' hon3; have J3 := hide (J2.out.onto hon3 hown'))))
        all_goals
          go_wp2
          exact ⟨⟨k + 1, KK.out.1, by rw [HT.out, ← HSM.out], by rw [HP3.out], by rw [SN.out]; exact J3⟩, by simpa [intOf] using KK.out.2⟩
      · have hlt2 : 2 * k + 1 < L.length := by omega
        have hnx : nx L k = pr (ia L (2 * k)) (ia L (2 * k + 1)) := by
          unfold nx
          rw [mt_even, if_pos hlt2]
        rw [hnx] at SN
        have l2 := hide (H3.out.at (2 * k + 1) hlt2)
        have TS := hide (twK_snoc L k)
        have HT : Hid (min (k + 1) (L.length / 2) = k + 1) := by show _ = _; omega
        have hT : min k (L.length / 2) = k := by omega
        rw [hT]
        have h5 : (((2 * k + 1 : Nat) : Int) == (L.length : Int)) = false := by simp; omega
        have h6 : ((2 * k + 1 : Nat) : Int) < (L.length : Int) := by omega
        have h7 : (0 : Int) ≤ ((2 * k + 1 : Nat) : Int) := by omega
        have R1 : Hid (∀ W, Below w.heap.size w W → W.rangeAt g (off + (2 * k) * 32) (cellsL (ia L (2 * k)))) := fun W h => (HL.out.below h).range _ hlt
        have R2 : Hid (∀ W, Below w.heap.size w W → W.rangeAt g (off + (2 * k + 1) * 32) (cellsL (ia L (2 * k + 1)))) := fun W h => (HL.out.below h).range _ hlt2
        have EQ := hide fun W => eqH ER _ _ l1.out l2.out W
        have HP := hide fun W => rpair_any _ _ l1.out l2.out W
        have hpl := pr_len (ia L (2 * k)) (ia L (2 * k + 1))
        generalize hia : ia L (2 * k) = A at *
        generalize hib : ia L (2 * k + 1) = B at *
        generalize hpr : pr A B = P at *
        have PL := hide hpl
        have bs : ∀ W, (bsg (.agg (hc P))).run Tryz.prog W = .ok (.slice (some ⟨W.heap.size, 0, none⟩) 1 1) (W.alloc (.cells (hc P) 24)) := fun W => ER.bs1 W P hpl
        obtain ⟨sm, hsm⟩ : ∃ sm, sm = twK L k := ⟨_, rfl⟩
        rw [← hsm] at TS ⊢
        clear hia hib hpr hpl hk hn hnx hodd hlt hlt2 hsm hT
        generalize hp : 2 * (k + 1) = p3 at *
        have HP3 := hide hp
        clear hp
        generalize 2 * k + 1 = p2 at *
        generalize 2 * k = p1 at *
        go_upto_region 7 with fail
        go_cut [5] from 31 to 43 (fun s5 wx => s5 = .bool (sm || (A == B)) ∧ Hid (Oj 24 w wx u4 (nxK L k)))
        case first =>
          obtain ⟨I, hne, F, i0, h0, hJ, hcl⟩ := J.out.cls
          cases sm
          · refine wp_region_class_lit (by kernel_rfl) (by kernel_rfl) i0 h0 ?_
            repeat (first | ((go_big_quiet_want; first | refine ET.qLoad ER _ (by rfl) g (off + p1 * 32) (by rfl) A l1.out (fun W hC => by obtain ⟨i, rfl⟩ := hC; exact R1.out _ (hJ.out i).bel) ?_ | refine ET.qLoad ER _ (by rfl) g (off + p2 * 32) (by rfl) B l2.out (fun W hC => by obtain ⟨i, rfl⟩ := hC; exact R2.out _ (hJ.out i).bel) ?_ | refine quiet_eql 24 _ _ _ (by rfl) (hc A) (hc B) (by rfl) (by rfl) eqg24 (A == B) EQ.out ?_); go_big_quiet_on; simp only [Act.put, List.setIfInBounds_toArray, List.set_cons_succ, List.set_cons_zero]) | go_big_quiet_step (fail))
            refine wpQuiet_nil ?_
            rintro _ ⟨iq, rfl⟩
            go_wp2_with fail
            go_meet
            exact ⟨by rw [Bool.false_or], hide (hJ.out iq)⟩
          · refine wp_region_class_lit (by kernel_rfl) (by kernel_rfl) i0 h0 ?_
            repeat (go_big_quiet_step (fail))
            refine wpQuiet_nil ?_
            rintro _ ⟨iq, rfl⟩
            go_wp2_with fail
            go_meet
            exact ⟨by rw [Bool.true_or], hide (hJ.out iq)⟩
        obtain ⟨rfl, J4⟩ := hcut
        clear J EQ
        generalize wc = W4 at *
        have ld1 : (ldg (.pointer (some ⟨g, off + p1 * 32, none⟩))).run Tryz.prog W4.drew = .ok (.agg (hc A)) W4.drew := ER.load l1.out (R1.out _ J4.out.bel.drew)
        have ld2 : (ldg (.pointer (some ⟨g, off + p2 * 32, none⟩))).run Tryz.prog W4.drew = .ok (.agg (hc B)) W4.drew := ER.load l2.out (R2.out _ J4.out.bel.drew)
        generalize hsb : (sm || (A == B)) = sb2 at *
        clear hsb
        go_upto_region 8 with fail
        go_region_law ((first | (go_simp; go_at_call 140; refine (HP.out _).mono ?_; rintro e w1 ⟨rfl, be⟩; have J1 := hide (J4.out.drew.next be); have J2 := hide (J1.out.next ((Below.refl _ _).alloc (Nat.le_refl _) (.cells (hc P) 24))); clear be) | (refine ET.step ER (by rfl) _ _ (by rfl) _ _ (by rfl) J2.out.own ⟨_, 0, none⟩ P PL.out (by rfl) (one_newH _ _) SZ.out ?_; intro v' w3 hown' hon3; have J3 := hide (J2.out.onto hon3 hown'))))
        all_goals
          go_wp2
          exact ⟨⟨k + 1, KK.out.1, by rw [HT.out, TS.out], by rw [HP3.out], by rw [SN.out]; exact J3⟩, by simpa [intOf] using KK.out.2⟩
    · have h1 : ¬ ((2 * k : Nat) : Int) < (L.length : Int) := by omega
      have hke : nxt L = nxK L k := by
        unfold nxt
        rw [show (L.length + 1) / 2 = k by omega]
      have hte : twb L = twK L (min k (L.length / 2)) := by
        unfold twb
        rw [show min k (L.length / 2) = L.length / 2 by omega]
      have HE := hide (And.intro hke hte)
      clear hke hlt hk hn hte
      generalize 2 * k = p1 at *
      go_wp2
      go_ret2
      exact ⟨u4, by rw [HE.out.2]; rfl, by rw [HE.out.1]; exact J.out⟩
end
end Go.Proofs.YtofddbjnncgmlabGreatDoor
namespace Go.Proofs.YtofddbjnncgmlabGreatDoor
open Go.RowKit
open Go.Deep
theorem LH.H {w : World} {v : Value} {L : List (List UInt8)} (h : LH w v L) : H32 L := h.1
theorem take_snocL (L : List (List UInt8)) (k : Nat) (h : k < L.length) : L.take (k + 1) = L.take k ++ [ia L k] := by
  rw [List.take_succ_eq_append_getElem h, ia_get L k h]
theorem H32.take {L : List (List UInt8)} (h : H32 L) (k : Nat) : H32 (L.take k) := fun x hx => h x (List.mem_of_mem_take hx)
theorem ia_take (L : List (List UInt8)) (n i : Nat) (h : i < n) : ia (L.take n) i = ia L i := by
  unfold ia
  rw [List.getD_eq_getElem?_getD, List.getD_eq_getElem?_getD, List.getElem?_take, if_pos h]
theorem LH.take {w : World} {ao : Option Addr} {n cap m : Nat} {L : List (List UInt8)} (h : LH w (.slice ao n cap) L) (hm : m ≤ L.length) : LH w (.slice ao m cap) (L.take m) := by
  obtain ⟨h1, ao', cap', e, h2, h3⟩ := h
  injection e with e1 e2 e3
  subst e1 e3
  have hl : (L.take m).length = m := by simp; omega
  refine ⟨h1.take m, ao, cap, by rw [hl], by omega, fun i hi => ?_⟩
  rw [hl] at hi
  rw [ia_take L m i hi]
  exact h3 i (by omega)
/-- Arrays held against each other by '!=', as an operation of a quiet walk. -/
theorem quiet_neqH {C : World → Prop} {a : Act} {o : Oper} {K : Act → Prop} (t : TypeId) (x y : Operand) (t2 : TypeId) (ho : o.op = .binOp .neq t x y t2) (c d : Array Value) (hx : a.eval x = .agg c) (hy : a.eval y = .agg d) (hg : Tryz.prog.eqGuardType Tryz.prog.depth t = false)
    (v : Bool) (hr : ∀ W, (Op.equalIn 10000 t (.agg c) (.agg d)).run Tryz.prog W = .ok v W) (hk : K (a.put o.dst (.bool !v))) : o.quiet Tryz.prog a C K := by
  refine ⟨.bool !v, fun W _ => ?_, hk⟩
  unfold Oper.quietAt execOp
  simp only [ho, hx, hy, Sem.run_bind, run_eqGuard_agg (P := Tryz.prog) W .neq t x y c d hg, run_neq_struct, hr W, Result.andThen_ok, Sem.run_pure]
  exact ⟨rfl, rfl⟩
section
set_option maxRecDepth 10000
set_option maxHeartbeats 2000000
end
end Go.Proofs.YtofddbjnncgmlabGreatDoor
namespace Go.Proofs.YtofddbjnncgmlabGreatDoor
open Go.RowKit
open Go.Deep
section
set_option maxRecDepth 10000
set_option maxHeartbeats 1000000
/-- The library's table of bits. -/
theorem wpList_len8M {w : World} {ops : Array Oper} {rest : List Oper} {o : Oper} {a : Act} {Q : Exit → Act → World → Prop} (hgd : o.guard = none) (T : ByteArray) (x : Operand) (ho : o.op = .index 9 (.const (.string T)) x) (X : Int) (hx : a.eval x = .int .u8 X) (j : Nat) (hX : X = j) (hj : j < 256)
    (hT : ∀ k : Fin 256, T.data[k.val]?.map (·.toNat) = some (bl k.val))
    (h : wpList Tryz.prog ops Q rest (a.put o.dst (.int .u8 ((bl j : Nat) : Int))) w) : wpList Tryz.prog ops Q (o :: rest) a w := by
  subst hX
  refine wpList_plain hgd fun K hK => ?_
  have e := hT ⟨j, hj⟩
  simp only [Option.map_eq_some_iff] at e
  obtain ⟨b, hb, hbl⟩ := e
  have hlt : j < T.size := by
    rcases Nat.lt_or_ge j T.data.size with h' | h'
    · exact h'
    · rw [Array.getElem?_eq_none h'] at hb
      cases hb
  have hg : T[j] = b := by
    have h2 := Array.getElem?_eq_getElem (xs := T.data) (i := j) hlt
    rw [hb] at h2
    exact (Option.some.inj h2).symm
  have hr : (Instr.index 9 (.string T) (.int .u8 (j : Int))).run Tryz.prog w = .ok (.int .u8 ((bl j : Nat) : Int)) w := by
    rw [run_index_string w _ _ _ _ Tryz.underlying9, dif_pos ⟨by omega, by omega⟩]
    simp [hg, hbl]
  have hc : a.eval (.const (.string T)) = .string T := rfl
  unfold Oper.wp execOp
  simp only [ho, hc, hx, hr, Sem.run_bind, Result.andThen_ok, Sem.run_pure]
  exact hK _ _ h
theorem bl_intM (Y : Int) (k : Nat) (c : Int) (hc : c = ((2 ^ k : Nat) : Int)) (h : c ≤ Y) : bl Y.toNat = k + bl (Y / c).toNat := by
  subst hc
  obtain ⟨y, rfl⟩ := Int.eq_ofNat_of_zero_le (Int.le_trans (Int.natCast_nonneg _) h)
  rw [Int.toNat_natCast, ← Int.natCast_ediv, Int.toNat_natCast]
  exact bl_shift y k (by omega)
theorem len_sumM (k : Nat) (hk : k ≤ 64) (Y Z : Int) (h1 : Y < 18446744073709551616) (h : bl Z.toNat = k + bl Y.toNat) : wrap64 ((k : Int) + wrap64 ((bl Y.toNat : Nat) : Int)) = ((bl Z.toNat : Nat) : Int) := by
  have hb : bl Y.toNat ≤ 64 := bl_le_of _ 64 (by omega)
  rw [h]
  unfold wrap64
  omega
theorem len64_intM (X : Int) (h0 : 0 ≤ X) (h1 : X < 18446744073709551616) (w : World) : Calls Tryz.prog 157 #[.int .u64 X] w fun e w' => e = .returned (.int .i64 ((bl X.toNat : Nat) : Int)) ∧ w' = w := by
  go_enter Tryz.func157, Tryz.ntmps157
  generalize hT0 : ByteArray.mk _ = T
  have hT : Hid (∀ k : Fin 256, T.data[k.val]?.map (·.toNat) = some (bl k.val)) := by
    subst hT0
    show ∀ k : Fin 256, _
    decide +kernel
  clear hT0
  go_wp2_with (refine wpList_len8M rfl _ _ rfl _ rfl (Int.toNat _) (Int.toNat_of_nonneg (by omega)).symm (by omega) hT.out ?_)
  all_goals go_ret
  all_goals refine ⟨ret_int ?_, rfl⟩
  · exact len_sumM 56 (by omega) (X / 4294967296 / 65536 / 256) X (by omega) (by rw [bl_intM X 32 4294967296 (by decide) (by omega), bl_intM _ 16 65536 (by decide) (by omega), bl_intM _ 8 256 (by decide) (by omega)]; omega)
  · exact len_sumM 48 (by omega) (X / 4294967296 / 65536) X (by omega) (by rw [bl_intM X 32 4294967296 (by decide) (by omega), bl_intM _ 16 65536 (by decide) (by omega)]; omega)
  · exact len_sumM 40 (by omega) (X / 4294967296 / 256) X (by omega) (by rw [bl_intM X 32 4294967296 (by decide) (by omega), bl_intM _ 8 256 (by decide) (by omega)]; omega)
  · exact len_sumM 32 (by omega) (X / 4294967296) X (by omega) (by rw [bl_intM X 32 4294967296 (by decide) (by omega)])
  · exact len_sumM 24 (by omega) (X / 65536 / 256) X (by omega) (by rw [bl_intM X 16 65536 (by decide) (by omega), bl_intM _ 8 256 (by decide) (by omega)]; omega)
  · exact len_sumM 16 (by omega) (X / 65536) X (by omega) (by rw [bl_intM X 16 65536 (by decide) (by omega)])
  · exact len_sumM 8 (by omega) (X / 256) X (by omega) (by rw [bl_intM X 8 256 (by decide) (by omega)])
  · have := len_sumM 0 (by omega) X X h1 (by omega)
    simpa using this
theorem lenM_any (x : Nat) (h1 : x < 18446744073709551616) (w : World) : Calls Tryz.prog 123 #[.int .u64 (x : Int)] w fun e w' => e = .returned (.int .i64 ((bl x : Nat) : Int)) ∧ w' = w := by
  have HL := hide fun W => len64_intM (x : Int) (by omega) (by omega) W
  rw [Int.toNat_natCast] at HL
  clear h1
  go_enter Tryz.func123, Tryz.ntmps123
  go_wp2_with (go_at_call 157; refine (HL.out _).mono ?_; rintro e w3 ⟨rfl, hw3⟩; subst w3)
  go_ret
  exact ⟨rfl, rfl⟩
/-- How many levels there are above n ids. -/
def dp (n : Nat) : Nat := if n < 2 then 0 else bl (n - 1)
theorem dp_step (n : Nat) (h : 2 ≤ n) : dp n = dp ((n + 1) / 2) + 1 := by
  unfold dp
  rw [if_neg (by omega)]
  by_cases h2 : n = 2
  · subst h2
    decide
  · rw [if_neg (by omega), show (n + 1) / 2 - 1 = (n - 1) / 2 by omega]
    have := bl_shift (n - 1) 1 (by omega)
    rw [this, Nat.pow_one]
    omega
theorem dp_low (n : Nat) (h : n < 2) : dp n = 0 := by unfold dp; rw [if_pos h]
theorem dp_le (n : Nat) (h : n < 4294967296) : dp n ≤ 32 := by
  unfold dp
  split
  · omega
  · exact bl_le_of _ 32 (by omega)
end
end Go.Proofs.YtofddbjnncgmlabGreatDoor
namespace Go.Proofs.YtofddbjnncgmlabGreatDoor
open Go.RowKit
open Go.Deep
/-- The level k of a list. -/
def lv (L : List (List UInt8)) : Nat → List (List UInt8)
  | 0 => L
  | k + 1 => nxt (lv L k)
theorem lv_32 {L : List (List UInt8)} (h : H32 L) : ∀ k, H32 (lv L k)
  | 0 => h
  | _ + 1 => nxt_32 _
theorem lv_le (L : List (List UInt8)) : ∀ k, (lv L k).length ≤ L.length
  | 0 => Nat.le_refl _
  | k + 1 => by
    rw [lv, nxt_len]
    have := lv_le L k
    omega
/-- Whether a level below k has two same ones. -/
def muK (L : List (List UInt8)) : Nat → Bool
  | 0 => false
  | k + 1 => muK L k || twb (lv L k)
/-- The root, and whether a list is mutated. -/
def rtL (L : List (List UInt8)) : List UInt8 := if L = [] then zeros else ia (lv L (dp L.length)) 0
def muL (L : List (List UInt8)) : Bool := muK L (dp L.length)
theorem lv_pos (L : List (List UInt8)) (h : 0 < L.length) : ∀ k, 0 < (lv L k).length
  | 0 => h
  | k + 1 => by
    rw [lv, nxt_len]
    have := lv_pos L h k
    omega
theorem rtL_len {L : List (List UInt8)} (h : H32 L) : (rtL L).length = 32 := by
  unfold rtL
  split
  · exact zeros_len
  · rename_i h0
    exact (lv_32 h _).at 0 (lv_pos L (by rcases L with _ | ⟨a, r⟩; exact absurd rfl h0; simp) _)
theorem resAB {t : TypeId} {n : Nat} {z : Array Value} (A : Arr t n z) {fn : Func} {p u : Tmp} (hf : fn.results = #[.cell p t, .tmp u]) (tmps : Array Value) (w : World) (g : Nat) (t' : TypeId) (c : Array Value) (hn : c.size = n)
    (hp : tmps.getD p undef = .pointer (some ⟨g, 0, none⟩)) (hg : w.heap[g]? = some (.cells c t' (0, 0))) (x : Value) (hx : tmps.getD u undef = x) : (results fn tmps).run Tryz.prog w = .ok (.tuple #[.agg c, x]) w := by
  subst hx
  have hp' : tmps[p]?.getD undef = .pointer (some ⟨g, 0, none⟩) := by simpa using hp
  rcases A.und with ⟨m, e, hd⟩ | ⟨fs, hd⟩ <;> simp [results, hf, hp', asAddr, run_loadVar_row w g t' t c (0, 0) _ hg hd rfl (by rw [A.info, hn])]
def lenV2 : Value → Nat
  | .slice _ n _ => n
  | _ => 0
/-- A level, and an answer's place. -/
structure Rj (w W : World) (v : Value) (L : List (List UInt8)) : Prop where
  lh : LH W v L
  r : W.heap[w.heap.size]? = some (.cells (hc zeros) 25 (0, 0))
  bel : Below w.heap.size w W
theorem Rj.next {w W W' : World} {v : Value} {L : List (List UInt8)} (j : Rj w W v L) (h : Below W.heap.size W W') : Rj w W' v L := ⟨j.lh.below h, (h.block _ (lt_heap j.r)).trans j.r, below_next j.bel h⟩
theorem Rj.level {w W W' : World} {v v' : Value} {L L' : List (List UInt8)} (j : Rj w W v L) (o : Oj 25 W W' v' L') : Rj w W' v' L' := ⟨o.own.read, (o.bel.block _ (lt_heap j.r)).trans j.r, below_next j.bel o.bel⟩
section
set_option maxRecDepth 10000
set_option maxHeartbeats 2000000
theorem root_none (v : Value) (w : World) (hL : LH w v []) : Calls Tryz.prog 66 #[v] w fun e w' => e = .returned (.tuple #[.agg (hc zeros), .bool false]) ∧ Below w.heap.size w w' := by
  obtain ⟨ao, cap, rfl⟩ := hL.form
  have R0 := hide (heap_alloc_last w (.cells (hc zeros) 25))
  have B0 := hide ((Below.refl w.heap.size w).alloc (Nat.le_refl _) (.cells (hc zeros) 25))
  rw [List.length_nil]
  clear hL
  go_enter Tryz.func66, Tryz.ntmps66
  go_upto_region 1 with (refine wpList_allocA A25 rfl rfl ?_)
  generalize w.alloc (.cells (hc zeros) 25) = W0 at *
  go_wp2_with (first | refine wpList_buildA A25 rfl rfl ?_ | refine wpList_storeA A25 rfl _ _ rfl _ (hc zeros) (by rw [hc_size, zeros_len]) (hc_one _) rfl rfl (hc zeros) (by rw [hc_size, zeros_len]) 25 R0.out ?_)
  exact bodyPost_ret (v := .tuple #[.agg (hc zeros), .bool false]) (resAB A25 Tryz.results66 _ _ w.heap.size 25 (hc zeros) (by rw [hc_size, zeros_len]) rfl (setRow_heap _ _ _ _ _ _ R0.out) _ (by rfl)) rfl ⟨rfl, below_setRow B0.out (Nat.le_refl _) _⟩
theorem root_some (v : Value) (L : List (List UInt8)) (w : World) (hL : LH w v L) (h0 : 0 < L.length) (hn : L.length < 4398046511104) (hK : Kg w) : Calls Tryz.prog 66 #[v] w fun e w' => e = .returned (.tuple #[.agg (hc (rtL L)), .bool (muL L)]) ∧ Below w.heap.size w w' := by
  obtain ⟨ao, cap, rfl⟩ := hL.form
  have J0 : Hid (Rj w (w.alloc (.cells (hc zeros) 25)) (.slice ao L.length cap) (lv L 0)) := ⟨hL.below ((Below.refl _ _).alloc (Nat.le_refl _) _), heap_alloc_last w _, (Below.refl _ _).alloc (Nat.le_refl _) _⟩
  have KW : Hid (∀ W, Below w.heap.size w W → Kg W) := fun W h => hK.next h
  have HN := hide (And.intro h0 hn)
  have H3 := hide hL.1
  have RL := hide (rtL_len hL.1)
  have hne : ((L.length : Int) == 0) = false := by rw [beq_eq_false_iff_ne]; omega
  clear hL hK h0 hn
  go_enter Tryz.func66, Tryz.ntmps66
  go_upto_region 1 with (refine wpList_allocA A25 rfl rfl ?_)
  generalize w.alloc (.cells (hc zeros) 25) = W0 at *
  go_wp2
  go_loopw [4, 5] (fun v m wr => ∃ k : Nat, m = .bool (muK L k) ∧ Hid (Rj w wr v (lv L k)) ∧ Hid (dp (lv L k).length + k = dp L.length)) (fun v _ _ => lenV2 v)
  case atStart => exact ⟨0, rfl, J0, rfl⟩
  case round =>
    clear J0
    obtain ⟨k, rfl, J, HD⟩ := hrel
    obtain ⟨ao4, cap4, rfl⟩ := J.out.lh.form
    have hle := lv_le L k
    have hpos := lv_pos L HN.out.1 k
    have hn := HN.out.2
    by_cases hlt : 1 < (lv L k).length
    · have h1 : (1 : Int) < ((lv L k).length : Int) := by omega
      have HD2 : Hid (dp (lv L (k + 1)).length + (k + 1) = dp L.length) := by
        show _ = _
        rw [← HD.out, dp_step _ hlt, lv, nxt_len]
        omega
      have HS := hide (show muK L (k + 1) = (muK L k || twb (lv L k)) from rfl)
      have HTw := hide fun W hW => twins_any (.slice ao4 (lv L k).length cap4) (lv L k) W hW (by omega)
      have HAb := hide fun W hW hK => above_any (.slice ao4 (lv L k).length cap4) (lv L k) W hW (by omega) hK
      rw [show nxt (lv L k) = lv L (k + 1) from rfl] at HAb
      have ME := hide (show (lv L (k + 1)).length < (lv L k).length by rw [lv, nxt_len]; omega)
      generalize muK L k = mu at *
      generalize twb (lv L k) = tb at *
      clear hlt hle hpos hn hne
      cases mu
      case' false =>
        go_upto_region 6 with (first | (go_at_call 104; refine (HTw.out _ J.out.lh).mono ?_; rintro e w1 ⟨rfl, be⟩; have J1 := hide (J.out.next be); clear be))
        rw [Bool.false_or] at HS
        clear J
        generalize w1 = W1 at *
      case' true =>
        go_upto_region 6 with fail
        rw [Bool.true_or] at HS
        have J1 := J
        clear J
        generalize wr = W1 at *
      all_goals
        go_wp2_with (first | (go_at_call 105; refine (HAb.out _ J1.out.lh (KW.out _ J1.out.bel)).mono ?_; rintro e w2 ⟨v2, rfl, o2⟩; have J2 := hide (J1.out.level o2); clear o2))
        obtain ⟨ao2, cap2, rfl⟩ := J2.out.lh.form
        exact ⟨⟨k + 1, by rw [HS.out], J2, HD2⟩, by simpa [lenV2] using ME.out⟩
    · have h1 : ¬ (1 : Int) < ((lv L k).length : Int) := by omega
      have hl1 : (lv L k).length = 1 := by omega
      have hk : k = dp L.length := by
        have := HD.out
        rw [hl1, dp_low 1 (by omega)] at this
        omega
      have hrt : rtL L = ia (lv L k) 0 := by
        unfold rtL
        rw [if_neg (fun h => by rw [h] at hpos; have := HN.out.1; rw [h] at this; simp at this), hk]
      have hmu : muL L = muK L k := by unfold muL; rw [hk]
      obtain ⟨g, off, rfl⟩ := J.out.lh.base hpos
      have R1 := hide (J.out.lh.range 0 hpos)
      rw [← hrt] at R1
      have h2 : (0 : Int) < ((lv L k).length : Int) := by omega
      rw [← hmu]
      generalize hrr : rtL L = rr at *
      generalize hmm : muL L = mm at *
      have HE := hide (And.intro hrr hmm)
      clear hk hrt hmu hlt hle hn hl1 hne hrr hmm
      go_wp2_with (first | refine ET.wpLoad EH rfl _ rfl g _ rfl rr RL.out R1.out ?_ | refine wpList_storeA A25 rfl _ _ rfl _ (hc rr) (by rw [hc_size, RL.out]) (hc_one _) rfl rfl (hc zeros) (by rw [hc_size, zeros_len]) 25 J.out.r ?_)
      exact bodyPost_ret (v := .tuple #[.agg (hc rr), .bool mm]) (resAB A25 Tryz.results66 _ _ w.heap.size 25 (hc rr) (by rw [hc_size, RL.out]) rfl (setRow_heap _ _ _ _ _ _ J.out.r) _ (by rfl)) rfl ⟨by rw [HE.out.1, HE.out.2], below_setRow J.out.bel (Nat.le_refl _) _⟩
end
end Go.Proofs.YtofddbjnncgmlabGreatDoor
