/- The contract of the document's Next. -/
import Derived.Test.YtlfgeaechckalaaDoorMe
namespace Go.Proofs.YtlfgeaechckalaaDoor
open Go.RowKit
open Go.Deep
def ldg (x : Value) : Sem Value := Instr.loadAt 24 x
theorem ldg_eq (x : Value) : Instr.loadAt 24 x = ldg x := rfl
def bsg (x : Value) : Sem Value := Instr.buildSlice 30 1 #[(0, x)]
theorem bsg_eq (x : Value) : Instr.buildSlice 30 1 #[(0, x)] = bsg x := rfl
theorem mt_even (n k : Nat) : mt n (2 * k) = if 2 * k + 1 < n then 2 * k + 1 else 2 * k := by
  have h : 2 * k % 2 = 0 := by omega
  simp only [mt, h, if_true]
attribute [-go_sem] Instr.buildSlice
attribute [local go_sem ↓] ldg_eq
attribute [local go_sem] bsg_eq
section
set_option maxRecDepth 10000
set_option maxHeartbeats 4000000
theorem rnext_any (v : Value) (L : List (List UInt8)) (w : World) (hL : LH w v L) (hn : L.length < 4294967296) : Calls Tryd.prog 20 #[v] w fun e w' => ∃ v', e = .returned (.tuple #[v', .bool (twb L)]) ∧ Oj 24 w w' v' (nxt L) := by
  obtain ⟨ao, cap, rfl⟩ := hL.form
  have HL := hide hL
  have HN := hide hn
  have H3 := hide hL.1
  have J0 : Hid (Oj 24 w (w.alloc (.cells #[] 24)) (.slice (some ⟨w.heap.size, 0, none⟩) 0 0) (nxK L 0)) := ⟨OH.new0 w, (Below.refl _ _).alloc (Nat.le_refl _) _, fun g hg => by cases hg; exact Nat.le_refl _⟩
  clear hL
  go_enter Tryd.func20, Tryd.ntmps20
  go_wp2_with (refine ET.wpBs0 ER rfl rfl ?_)
  generalize w.alloc (.cells #[] 24) = W0 at *
  go_loopw [4, 5, 6] (fun v s d wr => ∃ k : Nat, k ≤ (L.length + 1) / 2 ∧ s = .bool (twK L (min k (L.length / 2))) ∧ d = .int .i64 ((2 * k : Nat) : Int) ∧ Hid (Oj 24 w wr v (nxK L k))) (fun _ _ d _ => (L.length + 2 - intOf d).toNat)
  case atStart => exact ⟨0, Nat.zero_le _, rfl, rfl, J0⟩
  case round =>
    clear J0
    obtain ⟨k, hk, rfl, rfl, J⟩ := hrel
    have hn := HN.out
    by_cases hlt : 2 * k < L.length
    · obtain ⟨g, off, rfl⟩ := HL.out.base (by omega)
      have h1 : ((2 * k : Nat) : Int) < (L.length : Int) := by omega
      have e2 : IntKind.i64.wrap (((2 * k : Nat) : Int) + 2) = ((2 * (k + 1) : Nat) : Int) := by rw [wrapI _ (by omega) (by omega)]; omega
      have e3 : IntKind.i64.wrap (((2 * k : Nat) : Int) + 1) = ((2 * k + 1 : Nat) : Int) := by rw [wrapI _ (by omega) (by omega)]; omega
      have h2 : (0 : Int) ≤ ((2 * k : Nat) : Int) := by omega
      have KK := hide (And.intro (show k + 1 ≤ (L.length + 1) / 2 by omega) (show ((L.length : Int) + 2 - ((2 * (k + 1) : Nat) : Int)).toNat < ((L.length : Int) + 2 - ((2 * k : Nat) : Int)).toNat by omega))
      have SZ := hide (show (nxK L k).length + 1 ≤ 4398046511104 by rw [nxK_len]; omega)
      have SN := hide (nxK_snoc L k)
      have l1 := hide (H3.out.at (2 * k) (by omega))
      by_cases hodd : 2 * k + 1 = L.length
      · have hnx : nx L k = pr (ia L (2 * k)) (ia L (2 * k)) := by
          unfold nx
          rw [mt_even, if_neg (by omega)]
        rw [hnx] at SN
        have HT := hide (show min (k + 1) (L.length / 2) = min k (L.length / 2) by omega)
        have h5 : (((2 * k + 1 : Nat) : Int) == (L.length : Int)) = true := by simp; omega
        have ld1 : (ldg (.pointer (some ⟨g, off + (2 * k) * 32, none⟩))).run Tryd.prog wr.drew = .ok (.agg (hc (ia L (2 * k)))) wr.drew := ER.load l1.out ((HL.out.below J.out.bel.drew).range _ hlt)
        have HP := hide fun W => rpair_any _ _ l1.out l1.out W
        have hpl := pr_len (ia L (2 * k)) (ia L (2 * k))
        generalize hia : ia L (2 * k) = A at *
        generalize hpr : pr A A = P at *
        have PL := hide hpl
        have bs : ∀ W, (bsg (.agg (hc P))).run Tryd.prog W = .ok (.slice (some ⟨W.heap.size, 0, none⟩) 1 1) (W.alloc (.cells (hc P) 24)) := fun W => ER.bs1 W P hpl
        obtain ⟨sm, hsm⟩ : ∃ sm, sm = twK L (min k (L.length / 2)) := ⟨_, rfl⟩
        have HSM := hide hsm
        rw [← hsm]
        clear hia hpr hpl hk hn hnx hodd hlt hsm
        generalize hp : 2 * (k + 1) = p3 at *
        have HP3 := hide hp
        clear hp
        generalize 2 * k + 1 = p2 at *
        generalize 2 * k = p1 at *
        go_upto_region 6 with fail
        go_region_law ((first | (go_simp; go_at_call 19; refine (HP.out _).mono ?_; rintro e w1 ⟨rfl, be⟩; have J1 := hide (J.out.drew.next be); have J2 := hide (J1.out.next ((Below.refl _ _).alloc (Nat.le_refl _) (.cells (hc P) 24))); clear be) | (refine ET.step ER (by rfl) _ _ (by rfl) _ _ (by rfl) J2.out.own ⟨_, 0, none⟩ P PL.out (by rfl) (one_newH _ _) SZ.out ?_; intro v' w3 hown' hon3; have J3 := hide (J2.out.onto hon3 hown'))))
        all_goals
          go_wp2
          exact ⟨⟨k + 1, KK.out.1, by rw [HT.out, ← HSM.out], by rw [HP3.out], by rw [SN.out]; exact J3⟩, by simpa [intOf] using KK.out.2⟩
      · have hlt2 : 2 * k + 1 < L.length := by omega
        have hnx : nx L k = pr (ia L (2 * k)) (ia L (2 * k + 1)) := by
          unfold nx
          rw [mt_even, if_pos hlt2]
        rw [hnx] at SN
        have l2 := hide (H3.out.at (2 * k + 1) hlt2)
        have TS := hide (twK_snoc L k)
        have HT : Hid (min (k + 1) (L.length / 2) = k + 1) := by show _ = _; omega
        have hT : min k (L.length / 2) = k := by omega
        rw [hT]
        have h5 : (((2 * k + 1 : Nat) : Int) == (L.length : Int)) = false := by simp; omega
        have h6 : ((2 * k + 1 : Nat) : Int) < (L.length : Int) := by omega
        have h7 : (0 : Int) ≤ ((2 * k + 1 : Nat) : Int) := by omega
        have R1 : Hid (∀ W, Below w.heap.size w W → W.rangeAt g (off + (2 * k) * 32) (cellsL (ia L (2 * k)))) := fun W h => (HL.out.below h).range _ hlt
        have R2 : Hid (∀ W, Below w.heap.size w W → W.rangeAt g (off + (2 * k + 1) * 32) (cellsL (ia L (2 * k + 1)))) := fun W h => (HL.out.below h).range _ hlt2
        have EQ := hide fun W => eqH ER _ _ l1.out l2.out W
        have HP := hide fun W => rpair_any _ _ l1.out l2.out W
        have hpl := pr_len (ia L (2 * k)) (ia L (2 * k + 1))
        generalize hia : ia L (2 * k) = A at *
        generalize hib : ia L (2 * k + 1) = B at *
        generalize hpr : pr A B = P at *
        have PL := hide hpl
        have bs : ∀ W, (bsg (.agg (hc P))).run Tryd.prog W = .ok (.slice (some ⟨W.heap.size, 0, none⟩) 1 1) (W.alloc (.cells (hc P) 24)) := fun W => ER.bs1 W P hpl
        obtain ⟨sm, hsm⟩ : ∃ sm, sm = twK L k := ⟨_, rfl⟩
        rw [← hsm] at TS ⊢
        clear hia hib hpr hpl hk hn hnx hodd hlt hlt2 hsm hT
        generalize hp : 2 * (k + 1) = p3 at *
        have HP3 := hide hp
        clear hp
        generalize 2 * k + 1 = p2 at *
        generalize 2 * k = p1 at *
        go_upto_region 7 with fail
        go_cut [5] from 31 to 43 (fun s5 wx => s5 = .bool (sm || (A == B)) ∧ Hid (Oj 24 w wx u4 (nxK L k)))
        case first =>
          obtain ⟨I, hne, F, i0, h0, hJ, hcl⟩ := J.out.cls
          cases sm
          · refine wp_region_class_lit (by kernel_rfl) (by kernel_rfl) i0 h0 ?_
            repeat (first | ((go_big_quiet_want; first | refine ET.qLoad ER _ (by rfl) g (off + p1 * 32) (by rfl) A l1.out (fun W hC => by obtain ⟨i, rfl⟩ := hC; exact R1.out _ (hJ.out i).bel) ?_ | refine ET.qLoad ER _ (by rfl) g (off + p2 * 32) (by rfl) B l2.out (fun W hC => by obtain ⟨i, rfl⟩ := hC; exact R2.out _ (hJ.out i).bel) ?_ | refine quiet_eql 24 _ _ _ (by rfl) (hc A) (hc B) (by rfl) (by rfl) eqg24 (A == B) EQ.out ?_); go_big_quiet_on; simp only [Act.put, List.setIfInBounds_toArray, List.set_cons_succ, List.set_cons_zero]) | go_big_quiet_step (fail))
            refine wpQuiet_nil ?_
            rintro _ ⟨iq, rfl⟩
            go_wp2_with fail
            go_meet
            exact ⟨by rw [Bool.false_or], hide (hJ.out iq)⟩
          · refine wp_region_class_lit (by kernel_rfl) (by kernel_rfl) i0 h0 ?_
            repeat (go_big_quiet_step (fail))
            refine wpQuiet_nil ?_
            rintro _ ⟨iq, rfl⟩
            go_wp2_with fail
            go_meet
            exact ⟨by rw [Bool.true_or], hide (hJ.out iq)⟩
        obtain ⟨rfl, J4⟩ := hcut
        clear J EQ
        generalize wc = W4 at *
        have ld1 : (ldg (.pointer (some ⟨g, off + p1 * 32, none⟩))).run Tryd.prog W4.drew = .ok (.agg (hc A)) W4.drew := ER.load l1.out (R1.out _ J4.out.bel.drew)
        have ld2 : (ldg (.pointer (some ⟨g, off + p2 * 32, none⟩))).run Tryd.prog W4.drew = .ok (.agg (hc B)) W4.drew := ER.load l2.out (R2.out _ J4.out.bel.drew)
        generalize hsb : (sm || (A == B)) = sb2 at *
        clear hsb
        go_upto_region 8 with fail
        go_region_law ((first | (go_simp; go_at_call 19; refine (HP.out _).mono ?_; rintro e w1 ⟨rfl, be⟩; have J1 := hide (J4.out.drew.next be); have J2 := hide (J1.out.next ((Below.refl _ _).alloc (Nat.le_refl _) (.cells (hc P) 24))); clear be) | (refine ET.step ER (by rfl) _ _ (by rfl) _ _ (by rfl) J2.out.own ⟨_, 0, none⟩ P PL.out (by rfl) (one_newH _ _) SZ.out ?_; intro v' w3 hown' hon3; have J3 := hide (J2.out.onto hon3 hown'))))
        all_goals
          go_wp2
          exact ⟨⟨k + 1, KK.out.1, by rw [HT.out, TS.out], by rw [HP3.out], by rw [SN.out]; exact J3⟩, by simpa [intOf] using KK.out.2⟩
    · have h1 : ¬ ((2 * k : Nat) : Int) < (L.length : Int) := by omega
      have hke : nxt L = nxK L k := by
        unfold nxt
        rw [show (L.length + 1) / 2 = k by omega]
      have hte : twb L = twK L (min k (L.length / 2)) := by
        unfold twb
        rw [show min k (L.length / 2) = L.length / 2 by omega]
      have HE := hide (And.intro hke hte)
      clear hke hlt hk hn hte
      generalize 2 * k = p1 at *
      go_wp2
      go_ret2
      exact ⟨u4, by rw [HE.out.2]; rfl, by rw [HE.out.1]; exact J.out⟩
end
end Go.Proofs.YtlfgeaechckalaaDoor
