/- The law MerkleShows: its walk. -/
import Derived.Test.YthlaibkdcebekaaDoorSd
import Derived.Test.YthlaibkdcebekaaDoorMn
import Derived.Test.YthlaibkdcebekaaDoorNgb
import Derived.BigQuiet
namespace Go.Proofs.YthlaibkdcebekaaDoor
open Go.RowKit
open Go.Deep
theorem wpList_loadS {t : TypeId} {n : Nat} {z : Array Value} {w : World} {ops : Array Oper} {rest : List Oper} {o : Oper} {a : Act} {Q : Exit → Act → World → Prop} (A : Arr t n z) (x : Operand) (ho : o.op = .load t x) (g : Nat) (hx : a.eval x = .pointer (some ⟨g, 0, none⟩)) (c : Array Value) (hn : c.size = n) (t' : TypeId) (hg : w.heap[g]? = some (.cells c t' (0, 0))) (hw : Region.wanted o (yielded ops a.tmps) = true)
    (h : wpList Tryd.prog ops Q rest (a.put o.dst (.agg c)) w) : wpList Tryd.prog ops Q (o :: rest) a w := by
  refine wpList_step fun K hK => ?_
  rw [if_pos hw]
  unfold Oper.wp execOp
  simp only [ho, hx, Sem.run_bind, ld_row A hn hg, Result.andThen_ok, Sem.run_pure]
  exact hK _ _ h
theorem at_list {P : Program} {ops : Array Oper} {Q : Exit → Act → World → Prop} {l : List Oper} {a : Act} {w : World} (h : wpList P ops Q l a w) : wpList P ops Q l a w := h
/-- The place, taken into the list. -/
theorem place_in (p : Int) (n : Nat) (h0 : 0 < n) (hn : n ≤ 300) : ∃ q : Nat, (wrap64 (p.tmod n + n)).tmod n = (q : Int) ∧ q < n := by
  have h1 := Int.tmod_lt_of_pos p (show (0 : Int) < n by omega)
  have h2 : -(n : Int) < p.tmod n := by
    have := Int.lt_tmod_of_pos p (show (0 : Int) < n by omega)
    omega
  rw [show wrap64 (p.tmod n + n) = p.tmod n + n by unfold wrap64; omega]
  refine ⟨((p.tmod n + n).tmod n).toNat, ?_, ?_⟩
  · rw [Int.toNat_of_nonneg (Int.tmod_nonneg _ (by omega))]
  · have := Int.tmod_lt_of_pos (p.tmod n + n) (show (0 : Int) < n by omega)
    have := Int.tmod_nonneg (n : Int) (show 0 ≤ p.tmod n + n by omega)
    omega
/-- Which places are marked. -/
def mf (q i : Nat) : Bool := decide (i = q) || decide (i % (q + 2) = 1)
def mfK (q k i : Nat) : Bool := decide (i < k) && mf q i
def mfL (q n : Nat) : List Bool := (List.range n).map (mf q)
theorem mfL_len (q n : Nat) : (mfL q n).length = n := by simp [mfL]
theorem mfL_get (q n i : Nat) (h : i < n) : (mfL q n).getD i false = mf q i := by
  simp [mfL, List.getD_eq_getElem?_getD, h]
theorem mfK_zero (q i : Nat) : mfK q 0 i = false := by simp [mfK]
theorem mfK_step (q k i : Nat) : (if i = k then mf q k else mfK q k i) = mfK q (k + 1) i := by
  unfold mfK
  by_cases h : i = k
  · subst h
    simp
  · rw [if_neg h]
    have e : (i < k) ↔ (i < k + 1) := by omega
    simp only [e]
/-- What the walk holds: the root's place, and the marks. -/
structure Sj (w W : World) (g5 : Nat) (R : List UInt8) (g n : Nat) (f : Nat → Bool) : Prop where
  r5 : W.heap[g5]? = some (.cells (hc R) 39 (0, 0))
  bd : Bd W g n f
  bel : Below w.heap.size w W
  far : w.heap.size ≤ g
  ne : g5 ≠ g
theorem Sj.set {w W : World} {g5 : Nat} {R : List UInt8} {g n : Nat} {f f' : Nat → Bool} (j : Sj w W g5 R g n f) (i : Nat) (x : Bool) (e : ∀ j, j < n → (if j = i then x else f j) = f' j) : Sj w (W.setCell ⟨g, i, none⟩ (.bool x)) g5 R g n f' :=
  ⟨(Below.heap_setCell _ _ _ _ j.ne).trans j.r5, j.bd.set i x e, j.bel.setCell j.far _, j.far, j.ne⟩
theorem Sj.next {w W W' : World} {g5 : Nat} {R : List UInt8} {g n : Nat} {f : Nat → Bool} (j : Sj w W g5 R g n f) (h : Below W.heap.size W W') : Sj w W' g5 R g n f :=
  ⟨(h.block _ (lt_heap j.r5)).trans j.r5, World.rowIs.of_block j.bd (h.block _ j.bd.lt), below_next j.bel h, j.far, j.ne⟩
theorem mf_yes (q : Nat) : mf q q = true := by simp [mf]
theorem mf_no (q k : Nat) (h : ¬ k = q) : ((k : Int) % ((q : Int) + 2) == 1) = mf q k := by
  unfold mf
  rw [decide_eq_false h, Bool.false_or, Bool.eq_iff_iff, beq_iff_eq, decide_eq_true_iff, show ((k : Int) % ((q : Int) + 2)) = ((k % (q + 2) : Nat) : Int) by simp]
  generalize k % (q + 2) = x
  omega
def z3s : Array Value := #[.int .i64 0, .slice none 0 0, .slice none 0 0]
theorem A3s : Arr 25 3 z3s := ⟨.inr ⟨_, Tryd.underlying25⟩, by kernel_rfl, fun w => by kernel_rfl, fun w => by kernel_rfl, rfl⟩
theorem one3s (c : Int) (ab ai : Option Addr) (lb cb li ci : Nat) : (#[Value.int .i64 c, .slice ab lb cb, .slice ai li ci] : Array Value).all (·.oneCell') = true := by
  have e1 : ∀ k x, (Value.int k x).oneCell' = true := fun _ _ => rfl
  have e2 : ∀ a n c, (Value.slice a n c).oneCell' = true := fun _ _ _ => rfl
  simp [e1, e2]
section
set_option maxRecDepth 10000
set_option maxHeartbeats 40000000
theorem merkleShows_walk {w : World} (v : Value) (L : List (List UInt8)) (hL : LH w v L) (p : Int) (hp1 : -9223372036854775808 ≤ p) (hp2 : p ≤ 9223372036854775807) (hK : Kg w) (hT : Kt w) :
    Calls Tryd.prog 4 #[v, .int .i64 p] w fun e w' => e = .returned (.bool true) ∧ Below w.heap.size w w' := by
  have HF := hide (few_any v L w hL)
  have hlen : (L.take 300).length ≤ 300 := by simp; omega
  have H3 : Hid (H32 (L.take 300)) := H32.take hL.1 300
  generalize L.take 300 = M at *
  have KW : Hid (∀ W, Below w.heap.size w W → Kg W) := fun W h => hK.next h
  have TW : Hid (∀ W, Below w.heap.size w W → Kt W) := fun W h => hT.next h
  have HAw := hide fun W hW => awake6_any W hW
  have HLN := hide hlen
  have HP := hide (And.intro hp1 hp2)
  clear hL hK hT hlen hp1 hp2
  go_enter Tryd.func4, Tryd.ntmps4
  go_upto_region 2 with (first | (go_at_call 5; refine HF.out.mono ?_; rintro e w1 ⟨vm, rfl, hww, hm⟩; subst w1; have HM := hide hm; clear hm))
  obtain ⟨am, capm, rfl⟩ := HM.out.form
  clear HF
  by_cases h00 : M.length = 0
  · have hz : M.length = 0 := h00
    rw [hz]
    have B0 := hide (Below.refl w.heap.size w)
    clear hz h00
    go_upto_region 3 with (first | (go_at_call 7; refine (HAw.out _ (KW.out _ B0.out)).mono ?_; rintro e w2 ⟨rfl, be⟩; have B2 := hide be; clear be))
    go_wp2_with (first | (go_at_call 7; refine (HAw.out _ (KW.out _ B2.out)).mono ?_; rintro e w3 ⟨rfl, be⟩; have B3 := hide (below_next B2.out be); clear be))
    go_ret
    exact ⟨rfl, B3.out⟩
  · have h0 : 0 < M.length := by omega
    clear h00
    have hne : ((M.length : Int) == 0) = false := by rw [beq_eq_false_iff_ne]; omega
    have hl3 := HLN.out
    have RL := hide (rtL_len H3.out)
    have HR := hide fun W hW hKW => root_some (.slice am M.length capm) M W hW h0 (by omega) hKW
    have B0 := hide (Below.refl w.heap.size w)
    go_upto_region 4 with (first | (go_at_call 7; refine (HAw.out _ (KW.out _ B0.out)).mono ?_; rintro e w2 ⟨rfl, be⟩; have B2 := hide be; clear be))
    have HM2 := hide (HM.out.below B2.out)
    generalize hrr : rtL M = R at *
    have HRR := hide hrr
    generalize hmm : muL M = mu at *
    have HMU := hide hmm
    clear hrr hmm
    go_upto_region 5 with (first | (go_at_call 14; refine (HR.out _ HM2.out (KW.out _ B2.out)).mono ?_; rintro e w4 ⟨rfl, be⟩; have B4 := hide (below_next B2.out be); clear be) | (with_reducible refine at_list ?_; first | refine wpList_allocA A25 rfl rfl ?_ | refine wpList_store_newA A25 rfl _ _ rfl _ rfl (hc R) (by rw [hc_size, RL.out]) (hc_one _) rfl rfl ?_))
    have J5 := hide ((Hs.start B4.out).new 39 R)
    generalize w4.alloc (.cells (hc R) 39) = W5 at *
    generalize w4.heap.size = g5 at *
    clear B2 B4 HR HM2 B0 HAw hne
    obtain ⟨q, hq, hqn⟩ := place_in p M.length h0 hl3
    have hn0 : ((M.length : Int) == 0) = false := by rw [beq_eq_false_iff_ne]; omega
    go_upto_region 6 with fail
    have HQ := hide hqn
    obtain ⟨gm, offm, rfl⟩ := HM.out.base h0
    have HBr := hide fun W hW hKW => branch_yes (.slice (some ⟨gm, offm, none⟩) M.length capm) M q W hW hqn (by omega) hKW
    have bl2 : (brL M q).length = dp M.length := by unfold brL; rw [brK_len]
    have hdp : dp M.length ≤ 32 := dp_le _ (by omega)
    have hq2 : q < 2 ^ (brL M q).length := by rw [bl2]; exact Nat.lt_of_lt_of_le hqn (dp_pow _ _ (Nat.le_refl _) h0)
    have lq := hide (H3.out.at q hqn)
    have HCk := hide fun v W hW hKW => check_yes (ia M q) lq.out q v (brL M q) W hW (by omega) hq2 hKW
    rw [ck_root M q hqn, HRR.out] at HCk
    have RQ : Hid (∀ W, Below w.heap.size w W → W.rangeAt gm (offm + q * 32) (cellsL (ia M q))) := fun W h => (HM.out.below h).range q hqn
    have HDp := hide fun W => depth_any M.length (by omega) W
    have b1 : (0 : Int) ≤ (q : Int) := by omega
    have b2 : (q : Int) < (M.length : Int) := by omega
    generalize hBL : brL M q = BL at *
    generalize ia M q = A at *
    have HM5 := hide (HM.out.below J5.out.bel)
    have BL2 := hide bl2
    clear hq hqn hq2 hBL bl2 hdp
    go_upto_region 7 with (first | (go_at_call 15; refine (HBr.out _ HM5.out (KW.out _ J5.out.bel)).mono ?_; rintro e w6 ⟨v7, rfl, o7⟩; have J6 := hide (J5.out.next o7.bel); have O7 := hide o7.own; clear o7))
    obtain ⟨a7, c7, rfl⟩ := O7.out.form
    clear HBr HM5 J5
    go_upto_region 8 with (first | (go_at_call 16; refine (HCk.out _ _ O7.out.read (KW.out _ J6.out.bel)).mono ?_; rintro e w7 ⟨rfl, be⟩; have J7 := hide ((J6.out.next be).new 39 R); clear be) | (with_reducible refine at_list ?_; first | refine ET.wpLoad EH rfl _ rfl gm (offm + q * 32) rfl A lq.out (RQ.out _ J6.out.bel) ?_ | refine wpList_allocA A25 rfl rfl ?_ | refine wpList_store_newA A25 rfl _ _ rfl _ rfl (hc R) (by rw [hc_size, RL.out]) (hc_one _) rfl rfl ?_))
    generalize w7.alloc (.cells (hc R) 39) = W7 at *
    generalize w7.heap.size = g9 at *
    clear HCk J6 RQ O7 lq b1 b2
    have r5 := hide (J7.out.at (g := g5) (t := 39) (x := R) (by simp))
    have r9 := hide (J7.out.at (g := g9) (t := 39) (x := R) (by simp))
    have eR := hide fun W => eqH EH R R RL.out RL.out W
    rw [show (R == R) = true by simp] at eR
    have hne2 : ((BL.length : Int) != ((dp M.length : Nat) : Int)) = false := by rw [BL2.out]; simp
    go_upto_region 10 with (first | (go_at_call 17; refine (HDp.out _).mono ?_; rintro e w8 ⟨rfl, hww⟩; subst w8) | (with_reducible refine at_list ?_; first | refine wpList_loadS A25 _ rfl g9 rfl (hc R) (by rw [hc_size, RL.out]) 39 r9.out (by kernel_rfl) ?_ | refine wpList_loadS A25 _ rfl g5 rfl (hc R) (by rw [hc_size, RL.out]) 39 r5.out (by kernel_rfl) ?_ | refine wpList_neq 39 _ _ _ rfl (hc R) (hc R) rfl rfl (by kernel_rfl) eqg25 true eR.out ?_))
    clear r9 hne2 HDp eR r5 BL2
    have J0 : Hid (Sj w (W7.alloc (.cells (madeCells #[.bool false] M.length) 4)) g5 R W7.heap.size M.length (mfK q 0)) := by
      have b : Below W7.heap.size W7 (W7.alloc (.cells (madeCells #[.bool false] M.length) 4)) := (Below.refl _ _).alloc (Nat.le_refl _) _
      have r5 := J7.out.at (g := g5) (t := 39) (x := R) (by simp)
      exact ⟨(b.block _ (lt_heap r5)).trans r5, (World.rowIs_made W7 (.bool false) M.length 4).congr (fun i _ => by rw [mfK_zero]), below_next J7.out.bel b, J7.out.bel.size, Nat.ne_of_lt (lt_heap r5)⟩
    obtain ⟨i0, hi, hz, hs, hby⟩ := bool_parts
    have HB := hide (And.intro (show i0.bytes * M.length ≤ 281474976710656 by rw [hby]; omega) (show M.length ≤ 9223372036854775807 by omega))
    have HH := hide (And.intro hi (And.intro hz hs))
    clear hi hz hs hby
    go_upto_region 11 with (at_make; refine wpList_make_row _ rfl _ _ 23 rfl 4 i0 (.bool false) Tryd.underlying23 HH.out.1 HH.out.2.1 HH.out.2.2 rfl .i64 .i64 M.length rfl rfl HB.out.1 HB.out.2 ?_)
    generalize W7.alloc (.cells (madeCells #[.bool false] M.length) 4) = W8 at *
    generalize W7.heap.size = g11 at *
    clear HB HH J7
    go_wp2
    go_loopw [12, 88] (fun _ d wr => ∃ k : Nat, k ≤ M.length ∧ d = .int .i64 (k : Int) ∧ Hid (Sj w wr g5 R g11 M.length (mfK q k))) (fun _ d _ => (M.length - intOf d).toNat)
    case atStart => exact ⟨0, Nat.zero_le _, rfl, J0⟩
    case round =>
      clear J0
      obtain ⟨k, hk, rfl, J⟩ := hrel
      by_cases hlt : k < M.length
      · have h1 : (k : Int) < (M.length : Int) := by omega
        have h2 : (0 : Int) ≤ (k : Int) := by omega
        have e1 : IntKind.i64.wrap ((k : Int) + 1) = k + 1 := wrapI _ (by omega) (by omega)
        have cc := J.out.bd.cell hlt
        have fz := J.out.bd.fz k
        have hq3 := HQ.out
        have e2 : IntKind.i64.wrap ((q : Int) + 2) = q + 2 := wrapI _ (by omega) (by omega)
        have KK := hide (And.intro (show k + 1 ≤ M.length by omega) (show ((M.length : Int) - ((k : Int) + 1)).toNat < ((M.length : Int) - (k : Int)).toNat by omega))
        have M2 := hide (J.out.set k (mf q k) (f' := mfK q (k + 1)) (fun i _ => mfK_step q k i))
        by_cases hkq : k = q
        · subst hkq
          have q1 : ((k : Int) == (k : Int)) = true := by simp
          rw [mf_yes] at M2
          clear hlt hk hq3 J
          go_wp2
          exact ⟨⟨k + 1, KK.out.1, by go_num, M2⟩, by simpa [intOf] using KK.out.2⟩
        · have q1 : ((k : Int) == (q : Int)) = false := by rw [beq_eq_false_iff_ne]; omega
          have q2 : ((q : Int) + 2 == 0) = false := by rw [beq_eq_false_iff_ne]; omega
          have FV := hide (mf_no q k hkq)
          clear hlt hk hkq hq3 J
          go_wp2
          rw [FV.out]
          exact ⟨⟨k + 1, KK.out.1, by go_num, M2⟩, by simpa [intOf] using KK.out.2⟩
      · have h1 : ¬ (k : Int) < (M.length : Int) := by omega
        obtain rfl : k = M.length := by omega
        have LBm := hide (J.out.bd.list (mfL q M.length) (mfL_len _ _) (fun i hi => by rw [mfL_get _ _ _ hi]; simp [mfK, hi]))
        have HML := hide (mfL_len q M.length)
        have HMG := hide fun i (hi : i < M.length) => (show (mfL q M.length).getD i false = mfK q M.length i by rw [mfL_get _ _ _ hi]; simp [mfK, hi])
        generalize mfL q M.length = ms at *
        have HMk := hide (HM.out.below J.out.bel)
        have HPt := hide (part_yes _ _ M ms wr HMk.out LBm.out HML.out h0 hl3 (KW.out _ J.out.bel))
        have HRT := hide (rdT_tl ms M HML.out h0 hl3)
        generalize tl ms M (dp M.length) 0 = T at *
        obtain ⟨tb, ti⟩ := T
        simp only at HPt HRT
        clear hlt hk hl3 HMk
        go_upto_region 17 with (first | (go_at_call 6; refine HPt.out.mono ?_; rintro e w16 ⟨vb, vi, rfl, ob, oi, b16⟩; have J16 := hide (J.out.next b16); obtain ⟨axb, cxb, rfl⟩ := ob.form; obtain ⟨axi, cxi, rfl⟩ := oi.form; have OB3 := hide ob; have OI3 := hide oi; clear ob oi b16) | (with_reducible refine at_list ?_; first | refine wpList_allocA A3s rfl rfl ?_ | refine wpList_store_newA A3s rfl _ _ rfl _ rfl #[.int .i64 M.length, .slice axb tb.length cxb, .slice axi ti.length cxi] rfl (one3s _ _ _ _ _ _ _) rfl rfl ?_))
        have b17 : Below w16.heap.size w16 (w16.alloc (.cells #[.int .i64 M.length, .slice axb tb.length cxb, .slice axi ti.length cxi] 25)) := (Below.refl _ _).alloc (Nat.le_refl _) _
        have J17 := hide (J16.out.next b17)
        have P17 := hide (heap_alloc_last w16 (.cells #[.int .i64 M.length, .slice axb tb.length cxb, .slice axi ti.length cxi] 25))
        have OB4 := hide (OB3.out.below b17)
        have OI4 := hide (OI3.out.below b17)
        clear b17 J16 OB3 OI3 HPt J LBm
        generalize w16.alloc (.cells #[.int .i64 M.length, .slice axb tb.length cxb, .slice axi ti.length cxi] 25) = W17 at *
        generalize w16.heap.size = g13 at *
        have HRd := hide (mread_any M.length _ _ tb ti W17 OB4.out.read OI4.out.read (KW.out _ J17.out.bel))
        obtain ⟨ok, hok⟩ : ∃ ok : Bool, (ok = true ∧ rdT M.length tb ti = some ⟨R, [], [], mkL ms, (mkL ms).map (ia M)⟩) ∨ (ok = false ∧ mu = true ∧ rdT M.length tb ti = none) := by
          rcases HRT.out with h | ⟨h, hm⟩
          · exact ⟨true, .inl ⟨rfl, by rw [h, HRR.out]⟩⟩
          · exact ⟨false, .inr ⟨rfl, by rw [← HMU.out]; exact hm, h⟩⟩
        have HOK := hide hok
        clear hok HRT
        go_cut [10, 14, 15, 16] from 111 to 117 (fun s10 s14 s15 s16 wx => ∃ (g14 : Nat) (ec : Int), s14 = .pointer (some ⟨g14, 0, none⟩) ∧ s10 = .int .i64 ec ∧ (ec == 0) = ok ∧ Hid (Sj w wx g5 R g11 M.length (mfK q M.length) ∧ (ok = true → wx.heap[g14]? = some (.cells (hc R) 39 (0, 0)) ∧ OI wx s15 (mkL ms) ∧ OH 39 wx s16 ((mkL ms).map (ia M)))))
        case first =>
          rcases HOK.out with ⟨rfl, hr⟩ | ⟨rfl, hm, hr⟩
          · rw [hr] at HRd
            clear hr HOK
            go_wp2_with (first | (go_at_call 12; refine HRd.out.mono ?_; rintro e w18 ⟨b18, vp, vm, rfl, _, oi, oh⟩; have J18 := hide (J17.out.next b18); have OI5 := hide oi; have OH5 := hide oh; obtain ⟨avp, cvp, rfl⟩ := oi.form; obtain ⟨avm, cvm, rfl⟩ : ∃ ao c, vm = .slice ao (mkL ms).length c := (by obtain ⟨a1, c1, h1⟩ := oh.form; rw [List.length_map] at h1; exact ⟨a1, c1, h1⟩); clear oi oh b18) | (with_reducible refine at_list ?_; first | refine wpList_loadA A3s rfl _ rfl g13 rfl #[.int .i64 M.length, .slice axb tb.length cxb, .slice axi ti.length cxi] rfl 25 P17.out ?_ | refine wpList_allocA A25 rfl rfl ?_ | refine wpList_store_newA A25 rfl _ _ rfl _ rfl (hc R) (by rw [hc_size, RL.out]) (hc_one _) rfl rfl ?_))
            go_meet
            have b19 : Below w18.heap.size w18 (w18.alloc (.cells (hc R) 39)) := (Below.refl _ _).alloc (Nat.le_refl _) _
            exact ⟨_, 0, rfl, rfl, rfl, J18.out.next b19, fun _ => ⟨heap_alloc_last _ _, OI5.out.below b19, OH5.out.below b19⟩⟩
          · rw [hr] at HRd
            clear hr HOK hm
            go_wp2_with (first | (go_at_call 12; refine HRd.out.mono ?_; rintro e w18 ⟨b18, rt⟩; have rt2 : e = .returned (.tuple #[.agg (hc zeros), .slice none 0 0, .slice none 0 0, .int .i64 61]) := rt; subst rt2; have J18 := hide (J17.out.next b18); clear rt b18) | (with_reducible refine at_list ?_; first | refine wpList_loadA A3s rfl _ rfl g13 rfl #[.int .i64 M.length, .slice axb tb.length cxb, .slice axi ti.length cxi] rfl 25 P17.out ?_ | refine wpList_allocA A25 rfl rfl ?_ | refine wpList_store_newA A25 rfl _ _ rfl _ rfl (hc zeros) (by rw [hc_size, zeros_len]) (hc_one _) rfl rfl ?_))
            go_meet
            have b19 : Below w18.heap.size w18 (w18.alloc (.cells (hc zeros) 39)) := (Below.refl _ _).alloc (Nat.le_refl _) _
            exact ⟨_, 61, rfl, rfl, rfl, J18.out.next b19, fun h => by cases h⟩
        obtain ⟨g14, ec, rfl, rfl, hec, JC⟩ := hcut
        have HMu : Hid (ok = false → mu = true) := by
          rcases HOK.out with ⟨rfl, _⟩ | ⟨_, hm, _⟩
          · exact fun h => by cases h
          · exact fun _ => hm
        clear HOK HRd J17 P17 OB4 OI4
        generalize wc = W18 at *
        go_upto_if 121 with fail
        have hz0 := HLN.out
        go_cut [17, 18, 19] from 122 to 167 (fun s17 s18 s19 wx => Hid (Hs w wx [(g5, 39, R)]))
        case first =>
          cases ok
          · obtain rfl := HMu.out rfl
            go_wp2
            go_meet
            exact ⟨fun p hp => by rw [List.mem_singleton.1 hp]; exact JC.out.1.r5, JC.out.1.bel⟩
          · obtain ⟨r14, oi5, oh5⟩ := JC.out.2 rfl
            have R14 := hide r14
            have OI5 := hide oi5
            have OH5 := hide oh5
            have J5 := hide JC.out.1
            clear r14 oi5 oh5 JC HMu hec
            obtain ⟨avp, cvp, rfl⟩ := OI5.out.form
            obtain ⟨avm, cvm, rfl⟩ : ∃ ao c, u16 = .slice ao (mkL ms).length c := by
              obtain ⟨a1, c1, h1⟩ := OH5.out.form
              rw [List.length_map] at h1
              exact ⟨a1, c1, h1⟩
            go_wp2
            go_loopw [17, 18, 19, 124] (fun s17 _ _ d wr => ∃ k : Nat, k ≤ M.length ∧ d = .int .i64 (k : Int) ∧ s17 = .int .i64 ((mkU ms k).length : Int) ∧ Hid (Below W18.heap.size W18 wr)) (fun _ _ _ d _ => (M.length - intOf d).toNat)
            case atStart => exact ⟨0, Nat.zero_le _, rfl, rfl, Below.refl _ _⟩
            case round =>
              obtain ⟨k, hk, rfl, rfl, BW⟩ := hrel
              have hlu : (mkU ms k).length ≤ k := by
                unfold mkU
                have := List.length_filter_le (fun j => ms.getD j false) (List.range k)
                rw [List.length_range] at this
                exact this
              by_cases hlt : k < M.length
              · have h1 : (k : Int) < (M.length : Int) := by omega
                have h2 : (0 : Int) ≤ (k : Int) := by omega
                have e1 : IntKind.i64.wrap ((k : Int) + 1) = k + 1 := wrapI _ (by omega) (by omega)
                have cb := (J5.out.next BW.out).bd.cell hlt
                rw [← HMG.out k hlt] at cb
                have KK := hide (And.intro (show k + 1 ≤ M.length by omega) (show ((M.length : Int) - ((k : Int) + 1)).toNat < ((M.length : Int) - (k : Int)).toNat by omega))
                have SN := hide (mkU_snoc ms k)
                have SA := hide (mkU_at ms k (by rw [HML.out]; exact hlt))
                generalize ms.getD k false = mk at *
                cases mk
                · rw [if_neg (by simp)] at SN
                  clear hlu hlt hk
                  go_wp2
                  exact ⟨⟨k + 1, KK.out.1, by go_num, by rw [SN.out], BW⟩, by simpa [intOf] using KK.out.2⟩
                · rw [if_pos rfl] at SN
                  have SA2 := SA.out rfl
                  obtain ⟨hcl, hce⟩ := List.getElem?_eq_some_iff.1 SA2
                  have HCL := hide hcl
                  obtain ⟨gp, cp, hep⟩ := OI5.out.base (by omega)
                  injection hep with hep1 hep2 hep3
                  subst hep1
                  have hlm : ((mkL ms).map (ia M)).length = (mkL ms).length := List.length_map _
                  obtain ⟨gi, offi, rfl⟩ := OH5.out.read.base (by rw [hlm]; omega)
                  have ck : ∀ W, Below W18.heap.size W18 W → W.cell? ⟨gp, (mkU ms k).length, none⟩ = some (.int .i64 (k : Int)) := fun W h => by
                    have := (OI5.out.below h).cell _ hcl
                    rw [List.getD_eq_getElem?_getD, SA2] at this
                    exact this
                  have CK := hide ck
                  have RI : Hid (∀ W, Below W18.heap.size W18 W → W.rangeAt gi (offi + (mkU ms k).length * 32) (cellsL (ia M k))) := fun W h => by
                    have := (OH5.out.below h).read.range (mkU ms k).length (by rw [hlm]; exact hcl)
                    rw [show ia ((mkL ms).map (ia M)) (mkU ms k).length = ia M k by rw [ia_get _ _ (by rw [hlm]; exact hcl), List.getElem_map, hce]] at this
                    exact this
                  have RM : Hid (∀ W, Below W18.heap.size W18 W → W.rangeAt gm (offm + k * 32) (cellsL (ia M k))) := fun W h => (HM.out.below (below_next J5.out.bel h)).range k hlt
                  have lA := hide (H3.out.at k hlt)
                  have eA := hide fun W => eqH EH (ia M k) (ia M k) lA.out lA.out W
                  rw [show (ia M k == ia M k) = true by simp] at eA
                  generalize ia M k = A at *
                  have sl : (mkU ms (k + 1)).length = (mkU ms k).length + 1 := by rw [SN.out]; simp
                  have SL := hide sl
                  clear sl
                  have e2 : IntKind.i64.wrap (((mkU ms k).length : Int) + 1) = ((mkU ms k).length : Int) + 1 := wrapI _ (by omega) (by omega)
                  generalize (mkU ms k).length = cnt at *
                  have hg1 : ¬ ((mkL ms).length : Int) ≤ (cnt : Int) := by omega
                  have hg2 : (cnt : Int) < ((mkL ms).length : Int) := by omega
                  have hg3 : (0 : Int) ≤ (cnt : Int) := by omega
                  have hg4 : ((k : Int) != (k : Int)) = false := by simp
                  clear hlu hlt hk SA SA2 hcl hce ck hlm hep2 hep3
                  go_upto_region 26 with fail
                  obtain ⟨I, hneI, F, i0, hd0, hJ, hcl⟩ : ∃ (I : Type) (_ : Nonempty I) (F : I → World) (i0 : I), wr.drew = F i0 ∧ Hid (∀ i, Below W18.heap.size W18 (F i)) ∧ Hid (∀ i W', Below (F i).heap.size (F i) W' → ∃ j, W' = F j) :=
                    ⟨{W : World // Below W18.heap.size W18 W}, ⟨⟨_, BW.out⟩⟩, Subtype.val, ⟨wr.drew, BW.out.drew⟩, rfl, fun i => i.2, fun i W' b => ⟨⟨W', below_next i.2 b⟩, rfl⟩⟩
                  have cF : ∀ i, (F i).cell? ⟨gp, cnt, none⟩ = some (.int .i64 (k : Int)) := fun i => CK.out _ (hJ.out i)
                  refine wp_region_class_lit (by kernel_rfl) (by kernel_rfl) i0 hd0 ?_
                  repeat (first | ((go_big_quiet_want; first | refine ET.qLoad EH _ (by rfl) gi (offi + cnt * 32) (by rfl) A lA.out (fun W hC => by obtain ⟨i, rfl⟩ := hC; exact RI.out _ (hJ.out i)) ?_ | refine ET.qLoad EH _ (by rfl) gm (offm + k * 32) (by rfl) A lA.out (fun W hC => by obtain ⟨i, rfl⟩ := hC; exact RM.out _ (hJ.out i)) ?_ | refine quiet_neqH 39 _ _ _ (by rfl) (hc A) (hc A) (by rfl) (by rfl) eqg25 true eA.out ?_); go_big_quiet_on; simp only [Act.put, List.setIfInBounds_toArray, List.set_cons_succ, List.set_cons_zero, Bool.not_true]) | go_big_quiet_step (fail))
                  refine wpQuiet_nil ?_
                  rintro _ ⟨iq, rfl⟩
                  have BF := hide (hJ.out iq)
                  clear hJ hcl hd0 cF BW
                  generalize F iq = W2 at *
                  go_wp2
                  exact ⟨⟨k + 1, KK.out.1, by go_num, by rw [SL.out]; go_num, BF⟩, by simpa [intOf] using KK.out.2⟩
              · have h1 : ¬ (k : Int) < (M.length : Int) := by omega
                obtain rfl : k = M.length := by omega
                have hU : (mkU ms M.length).length = (mkL ms).length := by unfold mkL mkU; rw [HML.out]
                have hg1 : (((mkL ms).length : Int) != ((mkL ms).length : Int)) = false := by simp
                have eR := hide fun W => eqH EH R R RL.out RL.out W
                rw [show (R == R) = true by simp] at eR
                have r14 := hide ((BW.out.block _ (lt_heap R14.out)).trans R14.out)
                have J6 := hide (J5.out.next BW.out)
                have r5 := hide J6.out.r5
                rw [hU]
                clear hlu hlt hk hU J5
                go_wp2_with (with_reducible refine at_list ?_; first | refine wpList_loadS A25 _ rfl g14 rfl (hc R) (by rw [hc_size, RL.out]) 39 r14.out (by kernel_rfl) ?_ | refine wpList_loadS A25 _ rfl g5 rfl (hc R) (by rw [hc_size, RL.out]) 39 r5.out (by kernel_rfl) ?_ | refine wpList_neq 39 _ _ _ rfl (hc R) (hc R) rfl rfl (by kernel_rfl) eqg25 true eR.out ?_)
                go_meet
                exact ⟨fun p hp => by rw [List.mem_singleton.1 hp]; exact J6.out.r5, J6.out.bel⟩
        have JE := hcut
        clear JC HMu hec HMG HML hz0
        generalize wc = W19 at *
        have hlo : (odL M).length ≤ 600 := by
          have := HLN.out
          unfold odL
          rw [List.length_append, List.length_drop]
          omega
        have hlp : 0 < (odL M).length := by
          unfold odL
          rw [List.length_append]
          omega
        have HOR := hide (odd_root M h0 HLN.out)
        have HOd := hide (odd_any _ M W19 (HM.out.below JE.out.bel) HLN.out (TW.out _ JE.out.bel))
        have HRo := hide fun v W hW hKW => root_some v (odL M) W hW hlp (by omega) hKW
        rw [HOR.out.1, HRR.out] at HRo
        have HO2 := hide HOR.out.2
        generalize odL M = O at *
        generalize muL O = mo at *
        clear HOR hlo hlp
        go_upto_region 35 with (first | (go_at_call 18; refine HOd.out.mono ?_; rintro e w20 ⟨v20, rfl, l20, b20⟩; have J20 := hide (JE.out.next b20); have L20 := hide l20; clear l20 b20))
        obtain ⟨a20, c20, rfl⟩ := L20.out.form
        clear HOd JE
        go_upto_region 36 with (first | (go_at_call 14; refine (HRo.out _ _ L20.out (KW.out _ J20.out.bel)).mono ?_; rintro e w21 ⟨rfl, be⟩; have J21 := hide ((J20.out.next be).new 39 R); clear be) | (with_reducible refine at_list ?_; first | refine wpList_allocA A25 rfl rfl ?_ | refine wpList_store_newA A25 rfl _ _ rfl _ rfl (hc R) (by rw [hc_size, RL.out]) (hc_one _) rfl rfl ?_))
        generalize w21.alloc (.cells (hc R) 39) = W21 at *
        generalize w21.heap.size = g21 at *
        have r5 := hide (J21.out.at (g := g5) (t := 39) (x := R) (by simp))
        have r21 := hide (J21.out.at (g := g21) (t := 39) (x := R) (by simp))
        have eR := hide fun W => eqH EH R R RL.out RL.out W
        rw [show (R == R) = true by simp] at eR
        have B21 := hide J21.out.bel
        clear HRo J20 L20 J21
        rcases HO2.out with hs | ⟨hm2, hs⟩
        · have t1 : ((O.length : Int) == (M.length : Int)) = true := by rw [hs]; simp
          clear HO2 hs
          go_wp2_with (with_reducible refine at_list ?_; first | refine wpList_loadS A25 _ rfl g21 rfl (hc R) (by rw [hc_size, RL.out]) 39 r21.out (by kernel_rfl) ?_ | refine wpList_loadS A25 _ rfl g5 rfl (hc R) (by rw [hc_size, RL.out]) 39 r5.out (by kernel_rfl) ?_ | refine wpList_eql 39 _ _ _ rfl (hc R) (hc R) rfl rfl (by kernel_rfl) eqg25 true eR.out ?_)
          go_ret
          exact ⟨rfl, B21.out⟩
        · subst hm2
          have t1 : ((O.length : Int) == (M.length : Int)) = false := by rw [beq_eq_false_iff_ne]; omega
          have t2 : (M.length : Int) < (O.length : Int) := by omega
          clear HO2 hs
          go_wp2_with (with_reducible refine at_list ?_; first | refine wpList_loadS A25 _ rfl g21 rfl (hc R) (by rw [hc_size, RL.out]) 39 r21.out (by kernel_rfl) ?_ | refine wpList_loadS A25 _ rfl g5 rfl (hc R) (by rw [hc_size, RL.out]) 39 r5.out (by kernel_rfl) ?_ | refine wpList_eql 39 _ _ _ rfl (hc R) (hc R) rfl rfl (by kernel_rfl) eqg25 true eR.out ?_)
          go_ret
          exact ⟨rfl, B21.out⟩
end
end Go.Proofs.YthlaibkdcebekaaDoor
