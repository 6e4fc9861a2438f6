/- The law MerkleRoots: its walk. -/
import Derived.Test.YtlfgeaechckalaaDoorMn
import Derived.Test.YtlfgeaechckalaaDoorMq
import Derived.Test.YtlfgeaechckalaaDoorMr
namespace Go.Proofs.YtlfgeaechckalaaDoor
open Go.RowKit
open Go.Deep
theorem muL_nil : muL [] = false := rfl
theorem rtL_nil : rtL [] = zeros := rfl
theorem root_all (v : Value) (L : List (List UInt8)) (w : World) (hL : LH w v L) (hn : L.length < 4294967296) (hK : Kg w) : Calls Tryd.prog 8 #[v] w fun e w' => e = .returned (.tuple #[.agg (hc (rtL L)), .bool (muL L)]) ∧ Below w.heap.size w w' := by
  by_cases h0 : 0 < L.length
  · exact root_some v L w hL h0 hn hK
  · have h1 : L = [] := List.eq_nil_of_length_eq_zero (by omega)
    subst h1
    exact root_none v w hL
theorem rroot_all (v : Value) (L : List (List UInt8)) (w : World) (hL : LH w v L) (hn : L.length < 4294967296) : Calls Tryd.prog 9 #[v] w fun e w' => e = .returned (.tuple #[.agg (hc (rtL L)), .bool (muL L)]) ∧ Below w.heap.size w w' := by
  by_cases h0 : 0 < L.length
  · exact rroot_some v L w hL h0 hn
  · have h1 : L = [] := List.eq_nil_of_length_eq_zero (by omega)
    subst h1
    exact rroot_none v w hL
theorem wpList_loadH {t : TypeId} {n : Nat} {z : Array Value} {w : World} {ops : Array Oper} {rest : List Oper} {o : Oper} {a : Act} {Q : Exit → Act → World → Prop} (A : Arr t n z) (hw : Region.wanted o (yielded ops a.tmps) = true) (x : Operand) (ho : o.op = .load t x) (g : Nat) (hx : a.eval x = .pointer (some ⟨g, 0, none⟩)) (c : Array Value) (hn : c.size = n) (t' : TypeId) (hg : w.heap[g]? = some (.cells c t' (0, 0)))
    (h : wpList Tryd.prog ops Q rest (a.put o.dst (.agg c)) w) : wpList Tryd.prog ops Q (o :: rest) a w := by
  refine wpList_step fun K hK => ?_
  rw [if_pos hw]
  unfold Oper.wp execOp
  simp only [ho, hx, Sem.run_bind, ld_row A hn hg, Result.andThen_ok, Sem.run_pure]
  exact hK _ _ h
/-- What the walk of MerkleRoots holds: the two roots' places, and the copy of the list. -/
structure Mw (w W : World) (l : List (Nat × TypeId × List UInt8)) (v : Value) (M : List (List UInt8)) : Prop where
  hs : Hs w W l
  oj : Oj 25 w W v M
section
variable {w W W' : World} {l : List (Nat × TypeId × List UInt8)} {v : Value} {M : List (List UInt8)}
theorem Mw.next (j : Mw w W l v M) (h : Below W.heap.size W W') : Mw w W' l v M := ⟨j.hs.next h, j.oj.next h⟩
theorem Mw.drew (j : Mw w W l v M) : Mw w W.drew l v M := j.next (Below.refl _ _).drew
theorem Mw.new (j : Mw w W l v M) (t : TypeId) (x : List UInt8) : Mw w (W.alloc (.cells (hc x) t)) ((W.heap.size, t, x) :: l) v M :=
  ⟨j.hs.new t x, j.oj.next ((Below.refl _ _).alloc (Nat.le_refl _) _)⟩
theorem Mw.bel (j : Mw w W l v M) : Below w.heap.size w W := j.oj.bel
end
theorem dp_zero (n : Nat) (h : 0 < n) : dp n = 0 ↔ n = 1 := by
  constructor
  · intro h0
    by_cases h2 : 2 ≤ n
    · have := dp_step n h2
      omega
    · omega
  · intro h1
    subst h1
    exact dp_low 1 (by omega)
theorem lv_dp (L : List (List UInt8)) (h0 : 0 < L.length) : ∀ k, k ≤ dp L.length → dp (lv L k).length + k = dp L.length
  | 0, _ => rfl
  | k + 1, h => by
    have ih := lv_dp L h0 k (by omega)
    have hp := lv_pos L h0 k
    have h2 : 2 ≤ (lv L k).length := by
      by_cases h1 : (lv L k).length = 1
      · rw [h1, dp_low 1 (by omega)] at ih
        omega
      · omega
    have := dp_step _ h2
    rw [lv, nxt_len]
    omega
/-- What the loop of MerkleRoots holds: the levels, and the document's level. -/
structure Nw (B W : World) (v8 : Value) (vs : List Value) (M : List (List UInt8)) (v9 : Value) (k : Nat) : Prop where
  ls : Ls B W v8 vs M
  own : OH 24 W v9 (lv M k)
section
variable {B W W' : World} {v8 v9 : Value} {vs : List Value} {M : List (List UInt8)} {k : Nat}
theorem Nw.next (j : Nw B W v8 vs M v9 k) (h : Below W.heap.size W W') : Nw B W' v8 vs M v9 k := ⟨j.ls.next h, j.own.below h⟩
theorem Nw.drew (j : Nw B W v8 vs M v9 k) : Nw B W.drew v8 vs M v9 k := j.next (Below.refl _ _).drew
theorem Nw.cls (j : Nw B W v8 vs M v9 k) : ∃ (I : Type) (_ : Nonempty I) (F : I → World) (i0 : I), W.drew = F i0 ∧ Hid (∀ i, Nw B (F i) v8 vs M v9 k) ∧ Hid (∀ i W', Below (F i).heap.size (F i) W' → ∃ j, W' = F j) :=
  ⟨{W : World // Nw B W v8 vs M v9 k}, ⟨⟨_, j⟩⟩, Subtype.val, ⟨W.drew, j.drew⟩, rfl, fun i => i.2, fun i W' b => ⟨⟨W', i.2.next b⟩, rfl⟩⟩
end
section
set_option maxRecDepth 10000
set_option maxHeartbeats 40000000
theorem merkleRoots_walk {w : World} (v : Value) (L : List (List UInt8)) (hL : LH w v L) (hK : Kg w) (hT : Kt w) :
    Calls Tryd.prog 3 #[v] w fun e w' => e = .returned (.bool true) ∧ Below w.heap.size w w' := by
  have HF := hide (few_any v L w hL)
  have hlen : (L.take 300).length ≤ 300 := by simp; omega
  have H3 : Hid (H32 (L.take 300)) := H32.take hL.1 300
  generalize L.take 300 = M at *
  have KW : Hid (∀ W, Below w.heap.size w W → Kg W) := fun W h => hK.next h
  have TW : Hid (∀ W, Below w.heap.size w W → Kt W) := fun W h => hT.next h
  have HAw := hide fun W hW => awake6_any W hW
  have J0 : Hid (Oj 25 w (w.alloc (.cells #[] 25)) (.slice (some ⟨w.heap.size, 0, none⟩) 0 0) []) := ⟨OH.new0 w, (Below.refl _ _).alloc (Nat.le_refl _) _, fun g hg => by cases hg; exact Nat.le_refl _⟩
  have SZ := hide (show ([] : List (List UInt8)).length + M.length ≤ 4398046511104 by simp; omega)
  have HR := hide fun v W hW hKW => root_all v M W hW (by omega) hKW
  have HRR := hide fun v W hW => rroot_all v M W hW (by omega)
  have HG := hide fun v W hW => given_any v M W hW (by omega)
  have HS := hide fun v1 v2 W h1 h2 => same_any v1 v2 M W h1 h2 (by omega)
  have HS2 := hide fun v1 v2 W h1 h2 => same_any v1 v2 (odL M) W h1 h2 (by unfold odL; rw [List.length_append, List.length_drop]; omega)
  have HO := hide fun v W hW hTW => odd_any v M W hW hlen hTW
  have HRO := hide fun v W hW => rodd_any v M W hW hlen
  have HD := hide fun W => depth_any M.length (by omega) W
  have HRD := hide fun W => rdepth_any M.length (by omega) W
  have RL := hide (rtL_len H3.out)
  have EQ := hide fun W => eqH EH (rtL M) (rtL M) RL.out RL.out W
  rw [show (rtL M == rtL M) = true by simp] at EQ
  have HLN := hide hlen
  clear hL hK hT hlen
  go_enter Tryd.func3, Tryd.ntmps3
  go_upto_region 2 with (first | (go_at_call 7; refine HF.out.mono ?_; rintro e w1 ⟨vm, rfl, hww, hm⟩; subst w1; have HM := hide hm; clear hm))
  obtain ⟨am, capm, rfl⟩ := HM.out.form
  clear HF
  have HM1 := hide (HM.out.below J0.out.bel)
  go_upto_region 3 with (first | refine ET.wpBs0 EH rfl rfl ?_ | (at_builtin; refine ET.wpAppAll EH rfl _ _ rfl (.slice (some ⟨w.heap.size, 0, none⟩) 0 0) [] rfl J0.out.own (by simp) _ M rfl HM1.out SZ.out ?_; intro v3 w3 hown' hon3; have J3 := hide (J0.out.onto hon3 hown'); clear hown' hon3))
  rw [List.nil_append] at J3
  clear J0 HM1 SZ
  generalize hrr : rtL M = R at *
  generalize hmm : muL M = mu at *
  clear hrr hmm
  go_upto_region 4 with (first | (go_at_call 8; refine (HR.out _ _ J3.out.own.read (KW.out _ J3.out.bel)).mono ?_; rintro e w4 ⟨rfl, be⟩; have J4 := hide (J3.out.next be); clear be) | refine wpList_allocA A25 rfl rfl ?_ | refine wpList_store_newA A25 rfl _ _ rfl _ rfl (hc R) (by rw [hc_size, RL.out]) (hc_one _) rfl rfl ?_)
  have J5 := hide ((show Mw w w4 [] v3 M from ⟨Hs.start J4.out.bel, J4.out⟩).new 25 R)
  generalize w4.alloc (.cells (hc R) 25) = W5 at *
  generalize w4.heap.size = g4 at *
  clear J3 J4 HR
  go_upto_region 5 with (first | (go_at_call 10; refine (HG.out _ _ (HM.out.below J5.out.bel)).mono ?_; rintro e w6 ⟨vg, rfl, og⟩; have J6 := hide (J5.out.next og.bel); have G6 := hide og.own.read; clear og) | (go_at_call 9; refine (HRR.out _ _ G6.out).mono ?_; rintro e w7 ⟨rfl, be⟩; have J7 := hide (J6.out.next be); clear be) | refine wpList_allocA A24 rfl rfl ?_ | refine wpList_store_newA A24 rfl _ _ rfl _ rfl (hc R) (by rw [hc_size, RL.out]) (hc_one _) rfl rfl ?_)
  have J := hide (J7.out.new 24 R)
  generalize w7.alloc (.cells (hc R) 24) = W8 at *
  generalize w7.heap.size = g6 at *
  clear J5 J6 J7 HRR G6
  have hgE := eqg25
  go_upto_region 7 with (first | (go_at_call 11; refine (HAw.out _ (KW.out _ J.out.bel)).mono ?_; rintro e w9 ⟨rfl, be⟩; have J9 := hide (J.out.next be); clear be J) | refine wpList_loadH A25 rfl _ rfl g4 rfl (hc R) (by rw [hc_size, RL.out]) 25 (Hs.at (g := g4) (t := 25) (x := R) J9.out.hs (by simp)) ?_ | refine wpList_loadH A24 rfl _ rfl g6 rfl (hc R) (by rw [hc_size, RL.out]) 24 (Hs.at (g := g6) (t := 24) (x := R) J9.out.hs (by simp)) ?_ | refine wpList_neq 25 _ _ _ rfl (hc R) (hc R) rfl rfl rfl eqg25 true EQ.out ?_ | (go_at_call 12; refine (HD.out _).mono ?_; rintro e w10 ⟨rfl, hww⟩; subst w10) | (go_at_call 13; refine (HRD.out _).mono ?_; rintro e w10 ⟨rfl, hww⟩; subst w10) | (go_at_call 15; refine (HO.out _ _ J9.out.oj.own.read (TW.out _ J9.out.bel)).mono ?_; rintro e w11 ⟨vo, rfl, lo, be⟩; have J11 := hide (J9.out.next be); have O11 := hide lo; clear lo be J9) | (go_at_call 16; refine (HRO.out _ _ G12.out).mono ?_; rintro e w13 ⟨vr, rfl, lr, be⟩; have J13 := hide (J12.out.next be); have O13 := hide (O12.out.below be); have G13 := hide lr; clear lr be J12 O12 G12) | (go_at_call 14; refine (HS2.out _ _ _ O13.out G13.out).mono ?_; rintro e w14 ⟨rfl, be⟩; have J14 := hide (J13.out.next be); clear be J13 O13 G13) | (go_at_call 14; refine (HS.out _ _ _ J15.out.oj.own.read G15.out).mono ?_; rintro e w16 ⟨rfl, be⟩; have J16 := hide (J15.out.next be); clear be J15 G15) | (go_at_call 10; refine (HG.out _ _ (HM.out.below J11.out.bel)).mono ?_; rintro e w12 ⟨vg2, rfl, og⟩; have J12 := hide (J11.out.next og.bel); have O12 := hide (O11.out.below og.bel); have G12 := hide og.own.read; clear og J11 O11) | (go_at_call 10; refine (HG.out _ _ (HM.out.below J14.out.bel)).mono ?_; rintro e w15 ⟨vg3, rfl, og⟩; have J15 := hide (J14.out.next og.bel); have G15 := hide og.own.read; clear og J14))
  have BB := hide J16.out.bel
  have C3 := hide J16.out.oj.own.read
  have HM2 := hide (HM.out.below J16.out.bel)
  obtain ⟨ao3, c3, rfl⟩ := C3.out.form
  clear J16 HO HRO HS HS2 HAw TW EQ RL hgE
  generalize w16 = B at *
  by_cases h0 : 0 < M.length
  · obtain ⟨g, off, rfl⟩ := HM.out.base h0
    have hl3 := HLN.out
    have HLv := hide (levels_any _ M B C3.out h0 (by omega) (KW.out _ BB.out))
    go_upto_region 9 with (first | (go_at_call 17; refine HLv.out.mono ?_; rintro e w17 ⟨v8, vs, rfl, ls, hvs⟩; have HVS := hide hvs; have L8 := hide ls; clear ls hvs) | (go_at_call 10; refine (HG.out _ _ (HM2.out.below L8.out.bel)).mono ?_; rintro e w18 ⟨v9, rfl, og⟩; have J := hide (show Nw B w18 v8 vs M v9 0 from ⟨L8.out.next og.bel, og.own⟩); clear og))
    clear L8 HLv HG
    generalize w18 = W0 at *
    obtain ⟨g8, cap8, rfl, hcap8⟩ := J.out.ls.form (by rw [HVS.out]; omega)
    have e1 : IntKind.i64.wrap ((M.length : Int) - 1) = ((M.length - 1 : Nat) : Int) := by rw [wrapI _ (by omega) (by omega)]; omega
    have b0 : (0 : Int) < (M.length : Int) := by omega
    have b1 : (0 : Int) ≤ ((M.length - 1 : Nat) : Int) := by omega
    have b2 : ((M.length - 1 : Nat) : Int) < (M.length : Int) := by omega
    have l1 := hide (H3.out.at 0 h0)
    have l2 := hide (H3.out.at (M.length - 1) (by omega))
    have R1 : Hid (∀ W, Below B.heap.size B W → W.rangeAt g off (cellsL (ia M 0))) := fun W h => by
      have := (HM2.out.below h).range 0 h0
      rw [Nat.zero_mul, Nat.add_zero] at this
      exact this
    have R2 : Hid (∀ W, Below B.heap.size B W → W.rangeAt g (off + (M.length - 1) * 32) (cellsL (ia M (M.length - 1)))) := fun W h => (HM2.out.below h).range _ (by omega)
    have HP := hide fun W hW => pair_any _ _ l1.out l2.out W hW
    have HRP := hide fun W => rpair_any _ _ l1.out l2.out W
    have PL := hide (pr_len (ia M 0) (ia M (M.length - 1)))
    have KB : Hid (∀ W, Below B.heap.size B W → Kg W) := fun W h => KW.out W (below_next BB.out h)
    have EP := hide fun W => eqH EH (pr (ia M 0) (ia M (M.length - 1))) (pr (ia M 0) (ia M (M.length - 1))) PL.out PL.out W
    rw [show (pr (ia M 0) (ia M (M.length - 1)) == pr (ia M 0) (ia M (M.length - 1))) = true by simp] at EP
    generalize ia M 0 = A at *
    generalize ia M (M.length - 1) = Z at *
    generalize pr A Z = P at *
    have hne : ((M.length : Int) == 0) = false := by rw [beq_eq_false_iff_ne]; omega
    have HPOS := hide h0
    clear hl3 KW HM
    generalize M.length - 1 = q at *
    generalize hnn : M.length = n at *
    have HNN := hide hnn
    clear hnn
    go_upto_region 10 with fail
    obtain ⟨I, hneI, F, i0, hd0, hJ, hcl⟩ := J.out.cls
    refine wp_region_class_lit (by kernel_rfl) (by kernel_rfl) i0 hd0 ?_
    repeat (first | ((go_big_quiet_want; first | refine ET.qLoad EH _ (by rfl) g off (by rfl) A l1.out (fun W hC => by obtain ⟨i, rfl⟩ := hC; exact R1.out _ (hJ.out i).ls.bel) ?_ | refine ET.qLoad EH _ (by rfl) g (off + q * 32) (by rfl) Z l2.out (fun W hC => by obtain ⟨i, rfl⟩ := hC; exact R2.out _ (hJ.out i).ls.bel) ?_ | refine quiet_neqH 25 _ _ _ (by rfl) (hc P) (hc P) (by rfl) (by rfl) eqg25 true EP.out ?_); go_big_quiet_on; simp only [Act.put, List.setIfInBounds_toArray, List.set_cons_succ, List.set_cons_zero]) | go_big_quiet_step (first | (go_at_call 18; exact class_of hcl.out (HP.out _ (KB.out _ (hJ.out _).ls.bel))) | (go_at_call 19; exact class_of hcl.out (HRP.out _))))
    refine wpQuiet_nil ?_
    rintro _ ⟨iq, rfl⟩
    have J2 := hide (hJ.out iq)
    clear hJ hcl hd0 J R1 R2 EP HP HRP
    generalize F iq = W2 at *
    clear e1 b0 b1 b2 HD l1 l2 PL C3
    have HNx := hide fun v k W hW (hk : (lv M k).length < 4294967296) => rnext_any v (lv M k) W hW hk
    have HSm := hide fun v1 v2 k W h1 h2 (hk : (lv M k).length < 4398046511104) => same_any v1 v2 (lv M k) W h1 h2 hk
    go_wp2
    go_loopw [9, 11, 12, 103] (fun s9 _ _ s103 wr => ∃ k : Nat, k ≤ vs.length ∧ s103 = .int .i64 (k : Int) ∧ Hid (Nw B wr (.slice (some ⟨g8, 0, none⟩) vs.length cap8) vs M s9 k)) (fun _ _ _ d _ => (vs.length - intOf d).toNat)
    case atStart => exact ⟨0, Nat.zero_le _, rfl, J2⟩
    case round =>
      clear J2
      obtain ⟨k, hk, rfl, J⟩ := hrel
      have hvs := HVS.out
      have hdp : dp n ≤ 32 := dp_le n (by have := HLN.out; omega)
      by_cases hlt : k < vs.length
      · have h1 : (k : Int) < (vs.length : Int) := by omega
        have h2 : (0 : Int) ≤ (k : Int) := by omega
        have e1 : IntKind.i64.wrap ((k : Int) + 1) = k + 1 := wrapI _ (by omega) (by omega)
        have e2 : IntKind.i64.wrap ((vs.length : Int) - 1) = ((vs.length - 1 : Nat) : Int) := by rw [wrapI _ (by omega) (by omega)]; omega
        have hvk : vs[k]? = some vs[k] := List.getElem?_eq_getElem hlt
        have ok := J.out.ls.own k _ hvk
        have ck := J.out.ls.cell (g := g8) rfl hvk
        generalize vs[k] = xk at *
        have OK := hide ok
        have O9 := hide J.out.own
        obtain ⟨aok, cpk, rfl⟩ := OK.out.form
        obtain ⟨ao9, cp9, rfl⟩ := O9.out.form
        have hle : (lv M k).length ≤ 300 := Nat.le_trans (lv_le M k) (by rw [HNN.out]; exact HLN.out)
        have hld := lv_dp M (by rw [HNN.out]; exact h0) k (by rw [HNN.out]; omega)
        rw [HNN.out] at hld
        have hz := dp_zero (lv M k).length (lv_pos M (by rw [HNN.out]; exact h0) k)
        obtain ⟨qb, hqb⟩ : ∃ qb : Bool, qb = (((lv M k).length : Int) == 1) := ⟨_, rfl⟩
        have q2 : ((k : Int) == ((vs.length - 1 : Nat) : Int)) = qb := by
          rw [hqb, Bool.eq_iff_iff, beq_iff_eq, beq_iff_eq]
          omega
        have q1 : (((lv M k).length : Int) == 1) = qb := hqb.symm
        clear hqb hz hld
        have KK := hide (And.intro (show k + 1 ≤ vs.length by omega) (show ((vs.length : Int) - ((k + 1 : Nat) : Int)).toNat < ((vs.length : Int) - (k : Int)).toNat by omega))
        have HL1 := hide (show (lv M k).length < 4294967296 by omega)
        have HL2 := hide (show (lv M k).length < 4398046511104 by omega)
        clear hle hlt hk hvs hdp hvk ok hcap8
        go_wp2_with (first | (go_at_call 14; refine (HSm.out _ _ k _ OK.out.read O9.out.read HL2.out).mono ?_; rintro e w20 ⟨rfl, be⟩; have J20 := hide (J.out.next be); have O20 := hide (O9.out.below be); clear be) | (go_at_call 20; refine (HNx.out _ k _ O20.out.read HL1.out).mono ?_; rintro e w21 ⟨v21, rfl, o21⟩; have J21 := hide (show Nw B w21 (.slice (some ⟨g8, 0, none⟩) vs.length cap8) vs M v21 (k + 1) from ⟨J20.out.ls.next o21.bel, o21.own⟩); clear o21))
        have MM := hide (show ((vs.length : Int) - ((k : Int) + 1)).toNat < ((vs.length : Int) - (k : Int)).toNat by omega)
        go_roundw
        case rel =>
          (repeat apply Exists.intro)
          refine ⟨?_, rfl⟩
          exact ⟨k + 1, KK.out.1, by go_num, J21⟩
        case measure => exact MM.out
      · have h1 : ¬ (k : Int) < (vs.length : Int) := by omega
        have e3 : IntKind.i64.wrap (((dp n : Nat) : Int) + 1) = (vs.length : Int) := by rw [wrapI _ (by omega) (by omega)]; omega
        clear hlt hk hvs hdp hcap8
        go_wp2_with (go_at_call 13; refine (HRD.out _).mono ?_; rintro e w22 ⟨rfl, hww⟩; subst w22)
        go_ret
        exact ⟨rfl, below_next BB.out J.out.ls.bel⟩
  · have hz : M.length = 0 := by omega
    rw [hz] at HM2 C3 ⊢
    have HLv := hide (levels_nil c3 ao3 B)
    clear h0
    go_upto_region 10 with (first | (go_at_call 17; refine HLv.out.mono ?_; rintro e w17 ⟨rfl, hww⟩; subst w17) | (go_at_call 10; refine (HG.out _ _ HM2.out).mono ?_; rintro e w18 ⟨v9, rfl, og⟩; have B9 := hide og.bel; clear og))
    obtain ⟨I, hneI, F, i0, hd0, hJ, hcl⟩ : ∃ (I : Type) (_ : Nonempty I) (F : I → World) (i0 : I), w18.drew = F i0 ∧ Hid (∀ i, Below B.heap.size B (F i)) ∧ Hid (∀ i W', Below (F i).heap.size (F i) W' → ∃ j, W' = F j) :=
      ⟨{W : World // Below B.heap.size B W}, ⟨⟨_, B9.out⟩⟩, Subtype.val, ⟨w18.drew, B9.out.drew⟩, rfl, fun i => i.2, fun i W' b => ⟨⟨W', below_next i.2 b⟩, rfl⟩⟩
    refine wp_region_class_lit (by kernel_rfl) (by kernel_rfl) i0 hd0 ?_
    repeat (go_big_quiet_step (fail))
    refine wpQuiet_nil ?_
    rintro _ ⟨iq, rfl⟩
    have J2 := hide (hJ.out iq)
    clear hJ hcl hd0
    generalize F iq = W2 at *
    go_wp2
    go_ret
    exact ⟨rfl, below_next BB.out J2.out⟩
end
end Go.Proofs.YtlfgeaechckalaaDoor
