/- The contract of above. The contract of the document's Next. The contracts of the statements' given, same and few. -/
import Derived.Test.YthlaibkdcebekaaDoorMga
namespace Go.Proofs.YthlaibkdcebekaaDoor
open Go.RowKit
open Go.Deep
def ldh (x : Value) : Sem Value := Instr.loadAt 39 x
theorem ldh_eq (x : Value) : Instr.loadAt 39 x = ldh x := rfl
def bsh (x : Value) : Sem Value := Instr.buildSlice 22 1 #[(0, x)]
theorem bsh_eq (x : Value) : Instr.buildSlice 22 1 #[(0, x)] = bsh x := rfl
theorem Onto.of_below {W W' : World} (h : Below W.heap.size W W') (v : Value) : Onto W W' v v := ⟨⟨h.os, h.tape, h.output, h.size, fun k hk _ => h.block k hk⟩, .inl rfl⟩
theorem OH.drew {e : TypeId} {w : World} {v : Value} {L : List (List UInt8)} (h : OH e w v L) : OH e w.drew v L := h.of_block fun _ _ => rfl
/-- A list of the program's own, in blocks that a call made. -/
structure Oj (e : TypeId) (w W : World) (v : Value) (L : List (List UInt8)) : Prop where
  own : OH e W v L
  bel : Below w.heap.size w W
  far : ∀ g, v.ownBlock = some g → w.heap.size ≤ g
section
variable {e : TypeId} {w W W' : World} {v v' : Value} {L L' : List (List UInt8)}
theorem Oj.next (j : Oj e w W v L) (h : Below W.heap.size W W') : Oj e w W' v L := ⟨j.own.below h, below_next j.bel h, j.far⟩
theorem Oj.drew (j : Oj e w W v L) : Oj e w W.drew v L := j.next (Below.refl _ _).drew
theorem Oj.onto (j : Oj e w W v L) (h : Onto W W' v v') (o : OH e W' v' L') : Oj e w W' v' L' := ⟨o, j.bel.trans (h.below j.bel.size j.far), h.far j.bel.size j.far⟩
/-- Worlds in which the list lies, as a class. -/
theorem Oj.cls (j : Oj e w W v L) : ∃ (I : Type) (_ : Nonempty I) (F : I → World) (i0 : I), W.drew = F i0 ∧ Hid (∀ i, Oj e w (F i) v L) ∧ Hid (∀ i W', Below (F i).heap.size (F i) W' → ∃ j, W' = F j) :=
  ⟨{W : World // Oj e w W v L}, ⟨⟨_, j⟩⟩, Subtype.val, ⟨W.drew, j.drew⟩, rfl, fun i => i.2, fun i W' b => ⟨⟨W', i.2.next b⟩, rfl⟩⟩
end
attribute [-go_sem] Instr.buildSlice
attribute [local go_sem ↓] ldh_eq
attribute [local go_sem] bsh_eq
section
set_option maxRecDepth 10000
set_option maxHeartbeats 4000000
theorem above_any (v : Value) (L : List (List UInt8)) (w : World) (hL : LH w v L) (hn : L.length < 4294967296) (hK : Kg w) : Calls Tryd.prog 28 #[v] w fun e w' => ∃ v', e = .returned v' ∧ Oj 39 w w' v' (nxt L) := by
  obtain ⟨ao, cap, rfl⟩ := hL.form
  obtain ⟨i0, z, hi, hz, hzs, hs, hby⟩ := EH.parts
  have HL := hide hL
  have KW : Hid (∀ W, Below w.heap.size w W → Kg W) := fun W h => hK.next h
  have HW := hide fun W => width_any L.length 1 (by omega) (by omega) W
  have HN := hide hn
  have H3 := hide hL.1
  have hw1 : wdt L.length 1 = (L.length + 1) / 2 := rfl
  rw [hw1] at HW
  clear hL hK hw1
  go_enter Tryd.func28, Tryd.ntmps28
  go_wp2_with (first | (go_at_call 34; refine (HW.out _).mono ?_; rintro e w1 ⟨rfl, hww⟩; subst w1) | (at_make; refine wpList_make_own _ rfl _ _ 22 rfl 0 39 i0 z 32 Tryd.underlying22 hi hz hs _ _ _ ((L.length + 1) / 2) rfl rfl (by omega) (by rw [hby]; omega) (by unfold maxLen; omega) (Nat.zero_le _) ?_; intro w2 hown1 hgrow1))
  have J0 : Hid (Oj 39 w w2 (.slice (some ⟨w.heap.size, 0, none⟩) 0 ((L.length + 1) / 2)) (nxK L 0)) := ⟨⟨H32.nil, hown1⟩, (Below.refl _ _).grown hgrow1 (Nat.le_refl _) (by intro k hk; cases hk), fun g hg => by cases hg; exact Nat.le_refl _⟩
  clear hown1 hgrow1 hi hz hzs hs hby HW
  go_loopw [3, 4] (fun v d wr => ∃ k : Nat, k ≤ (L.length + 1) / 2 ∧ d = .int .i64 ((2 * k : Nat) : Int) ∧ Hid (Oj 39 w wr v (nxK L k))) (fun _ d _ => (L.length + 2 - intOf d).toNat)
  case atStart => exact ⟨0, Nat.zero_le _, rfl, J0⟩
  case round =>
    clear J0
    obtain ⟨k, hk, rfl, J⟩ := hrel
    have hn := HN.out
    by_cases hlt : 2 * k < L.length
    · obtain ⟨g, off, rfl⟩ := HL.out.base (by omega)
      have h1 : ((2 * k : Nat) : Int) < (L.length : Int) := by omega
      have hm := mt_lt L.length (2 * k) hlt
      have l1 := hide (H3.out.at (2 * k) (by omega))
      have l2 := hide (H3.out.at _ hm)
      have HM := hide fun W => mate_any (2 * k) L.length (by omega) W
      have LD : Hid (∀ W, Below w.heap.size w W → Below w.heap.size w W ∧ (ldh (.pointer (some ⟨g, off + (2 * k) * 32, none⟩))).run Tryd.prog W = .ok (.agg (hc (ia L (2 * k)))) W ∧ (ldh (.pointer (some ⟨g, off + (mt L.length (2 * k)) * 32, none⟩))).run Tryd.prog W = .ok (.agg (hc (ia L (mt L.length (2 * k))))) W) := fun W h => ⟨h, EH.load l1.out ((HL.out.below h).range _ hlt), EH.load l2.out ((HL.out.below h).range _ hm)⟩
      have HP := hide fun W hW => pair_any _ _ l1.out l2.out W hW
      have hpl := pr_len (ia L (2 * k)) (ia L (mt L.length (2 * k)))
      have SN := hide (nxK_snoc L k)
      rw [show nx L k = pr (ia L (2 * k)) (ia L (mt L.length (2 * k))) from rfl] at SN
      have e2 : IntKind.i64.wrap (((2 * k : Nat) : Int) + 2) = ((2 * (k + 1) : Nat) : Int) := by rw [wrapI _ (by omega) (by omega)]; omega
      have h2 : (0 : Int) ≤ ((2 * k : Nat) : Int) := by omega
      have h3 : ((mt L.length (2 * k) : Nat) : Int) < (L.length : Int) := by omega
      have h4 : (0 : Int) ≤ ((mt L.length (2 * k) : Nat) : Int) := by omega
      have KK := hide (And.intro (show k + 1 ≤ (L.length + 1) / 2 by omega) (show ((L.length : Int) + 2 - ((2 * (k + 1) : Nat) : Int)).toNat < ((L.length : Int) + 2 - ((2 * k : Nat) : Int)).toNat by omega))
      have SZ := hide (show (nxK L k).length + 1 ≤ 4398046511104 by rw [nxK_len]; omega)
      generalize hia : ia L (2 * k) = A at *
      generalize hib : ia L (mt L.length (2 * k)) = B at *
      generalize hpr : pr A B = P at *
      have PL := hide hpl
      have bs : ∀ W, (bsh (.agg (hc P))).run Tryd.prog W = .ok (.slice (some ⟨W.heap.size, 0, none⟩) 1 1) (W.alloc (.cells (hc P) 39)) := fun W => EH.bs1 W P hpl
      clear hia hib hpr hpl hk hn
      generalize hp : 2 * (k + 1) = p3 at *
      have HP3 := hide hp
      clear hp hm hlt
      generalize mt L.length (2 * k) = q at *
      generalize 2 * k = p1 at *
      go_upto_region 5 with fail
      have ld1 := (LD.out _ J.out.bel.drew).2.1
      have ld2 := (LD.out _ J.out.bel.drew).2.2
      go_region_law ((first | (go_simp; go_at_call 29; refine (HM.out _).mono ?_; rintro e w1 ⟨rfl, hww⟩; subst w1) | (go_simp; go_at_call 30; refine (HP.out _ (KW.out _ J.out.bel.drew)).mono ?_; rintro e w1 ⟨rfl, be⟩; have J1 := hide ((J.out.next (Below.refl _ _).drew).next be); have J2 := hide (J1.out.next ((Below.refl _ _).alloc (Nat.le_refl _) (.cells (hc P) 39))); clear be) | (refine ET.step EH (by rfl) _ _ (by rfl) _ _ (by rfl) J2.out.own ⟨_, 0, none⟩ P PL.out (by rfl) (one_newH _ _) SZ.out ?_; intro v' w3 hown' hon3; have J3 := hide (J2.out.onto hon3 hown'))))
      all_goals
        go_wp2
        exact ⟨⟨k + 1, KK.out.1, by rw [HP3.out], by rw [SN.out]; exact J3⟩, by simpa [intOf] using KK.out.2⟩
    · have h1 : ¬ ((2 * k : Nat) : Int) < (L.length : Int) := by omega
      have hke : nxt L = nxK L k := by
        unfold nxt
        rw [show (L.length + 1) / 2 = k by omega]
      have HE := hide hke
      clear hke hlt hk hn
      generalize 2 * k = p1 at *
      go_wp2
      go_ret
      exact ⟨u3, rfl, by rw [HE.out]; exact J.out⟩
end
end Go.Proofs.YthlaibkdcebekaaDoor
namespace Go.Proofs.YthlaibkdcebekaaDoor
open Go.RowKit
open Go.Deep
def ldg (x : Value) : Sem Value := Instr.loadAt 38 x
theorem ldg_eq (x : Value) : Instr.loadAt 38 x = ldg x := rfl
def bsg (x : Value) : Sem Value := Instr.buildSlice 31 1 #[(0, x)]
theorem bsg_eq (x : Value) : Instr.buildSlice 31 1 #[(0, x)] = bsg x := rfl
theorem mt_even (n k : Nat) : mt n (2 * k) = if 2 * k + 1 < n then 2 * k + 1 else 2 * k := by
  have h : 2 * k % 2 = 0 := by omega
  simp only [mt, h, if_true]
attribute [-go_sem] Instr.buildSlice
attribute [local go_sem ↓] ldg_eq
attribute [local go_sem] bsg_eq
section
set_option maxRecDepth 10000
set_option maxHeartbeats 4000000
theorem rnext_any (v : Value) (L : List (List UInt8)) (w : World) (hL : LH w v L) (hn : L.length < 4294967296) : Calls Tryd.prog 35 #[v] w fun e w' => ∃ v', e = .returned (.tuple #[v', .bool (twb L)]) ∧ Oj 38 w w' v' (nxt L) := by
  obtain ⟨ao, cap, rfl⟩ := hL.form
  have HL := hide hL
  have HN := hide hn
  have H3 := hide hL.1
  have J0 : Hid (Oj 38 w (w.alloc (.cells #[] 38)) (.slice (some ⟨w.heap.size, 0, none⟩) 0 0) (nxK L 0)) := ⟨OH.new0 w, (Below.refl _ _).alloc (Nat.le_refl _) _, fun g hg => by cases hg; exact Nat.le_refl _⟩
  clear hL
  go_enter Tryd.func35, Tryd.ntmps35
  go_wp2_with (refine ET.wpBs0 ER rfl rfl ?_)
  generalize w.alloc (.cells #[] 38) = W0 at *
  go_loopw [4, 5, 6] (fun v s d wr => ∃ k : Nat, k ≤ (L.length + 1) / 2 ∧ s = .bool (twK L (min k (L.length / 2))) ∧ d = .int .i64 ((2 * k : Nat) : Int) ∧ Hid (Oj 38 w wr v (nxK L k))) (fun _ _ d _ => (L.length + 2 - intOf d).toNat)
  case atStart => exact ⟨0, Nat.zero_le _, rfl, rfl, J0⟩
  case round =>
    clear J0
    obtain ⟨k, hk, rfl, rfl, J⟩ := hrel
    have hn := HN.out
    by_cases hlt : 2 * k < L.length
    · obtain ⟨g, off, rfl⟩ := HL.out.base (by omega)
      have h1 : ((2 * k : Nat) : Int) < (L.length : Int) := by omega
      have e2 : IntKind.i64.wrap (((2 * k : Nat) : Int) + 2) = ((2 * (k + 1) : Nat) : Int) := by rw [wrapI _ (by omega) (by omega)]; omega
      have e3 : IntKind.i64.wrap (((2 * k : Nat) : Int) + 1) = ((2 * k + 1 : Nat) : Int) := by rw [wrapI _ (by omega) (by omega)]; omega
      have h2 : (0 : Int) ≤ ((2 * k : Nat) : Int) := by omega
      have KK := hide (And.intro (show k + 1 ≤ (L.length + 1) / 2 by omega) (show ((L.length : Int) + 2 - ((2 * (k + 1) : Nat) : Int)).toNat < ((L.length : Int) + 2 - ((2 * k : Nat) : Int)).toNat by omega))
      have SZ := hide (show (nxK L k).length + 1 ≤ 4398046511104 by rw [nxK_len]; omega)
      have SN := hide (nxK_snoc L k)
      have l1 := hide (H3.out.at (2 * k) (by omega))
      by_cases hodd : 2 * k + 1 = L.length
      · have hnx : nx L k = pr (ia L (2 * k)) (ia L (2 * k)) := by
          unfold nx
          rw [mt_even, if_neg (by omega)]
        rw [hnx] at SN
        have HT := hide (show min (k + 1) (L.length / 2) = min k (L.length / 2) by omega)
        have h5 : (((2 * k + 1 : Nat) : Int) == (L.length : Int)) = true := by simp; omega
        have ld1 : (ldg (.pointer (some ⟨g, off + (2 * k) * 32, none⟩))).run Tryd.prog wr.drew = .ok (.agg (hc (ia L (2 * k)))) wr.drew := ER.load l1.out ((HL.out.below J.out.bel.drew).range _ hlt)
        have HP := hide fun W => rpair_any _ _ l1.out l1.out W
        have hpl := pr_len (ia L (2 * k)) (ia L (2 * k))
        generalize hia : ia L (2 * k) = A at *
        generalize hpr : pr A A = P at *
        have PL := hide hpl
        have bs : ∀ W, (bsg (.agg (hc P))).run Tryd.prog W = .ok (.slice (some ⟨W.heap.size, 0, none⟩) 1 1) (W.alloc (.cells (hc P) 38)) := fun W => ER.bs1 W P hpl
        obtain ⟨sm, hsm⟩ : ∃ sm, sm = twK L (min k (L.length / 2)) := ⟨_, rfl⟩
        have HSM := hide hsm
        rw [← hsm]
        clear hia hpr hpl hk hn hnx hodd hlt hsm
        generalize hp : 2 * (k + 1) = p3 at *
        have HP3 := hide hp
        clear hp
        generalize 2 * k + 1 = p2 at *
        generalize 2 * k = p1 at *
        go_upto_region 6 with fail
        go_region_law ((first | (go_simp; go_at_call 39; refine (HP.out _).mono ?_; rintro e w1 ⟨rfl, be⟩; have J1 := hide (J.out.drew.next be); have J2 := hide (J1.out.next ((Below.refl _ _).alloc (Nat.le_refl _) (.cells (hc P) 38))); clear be) | (refine ET.step ER (by rfl) _ _ (by rfl) _ _ (by rfl) J2.out.own ⟨_, 0, none⟩ P PL.out (by rfl) (one_newH _ _) SZ.out ?_; intro v' w3 hown' hon3; have J3 := hide (J2.out.onto hon3 hown'))))
        all_goals
          go_wp2
          exact ⟨⟨k + 1, KK.out.1, by rw [HT.out, ← HSM.out], by rw [HP3.out], by rw [SN.out]; exact J3⟩, by simpa [intOf] using KK.out.2⟩
      · have hlt2 : 2 * k + 1 < L.length := by omega
        have hnx : nx L k = pr (ia L (2 * k)) (ia L (2 * k + 1)) := by
          unfold nx
          rw [mt_even, if_pos hlt2]
        rw [hnx] at SN
        have l2 := hide (H3.out.at (2 * k + 1) hlt2)
        have TS := hide (twK_snoc L k)
        have HT : Hid (min (k + 1) (L.length / 2) = k + 1) := by show _ = _; omega
        have hT : min k (L.length / 2) = k := by omega
        rw [hT]
        have h5 : (((2 * k + 1 : Nat) : Int) == (L.length : Int)) = false := by simp; omega
        have h6 : ((2 * k + 1 : Nat) : Int) < (L.length : Int) := by omega
        have h7 : (0 : Int) ≤ ((2 * k + 1 : Nat) : Int) := by omega
        have R1 : Hid (∀ W, Below w.heap.size w W → W.rangeAt g (off + (2 * k) * 32) (cellsL (ia L (2 * k)))) := fun W h => (HL.out.below h).range _ hlt
        have R2 : Hid (∀ W, Below w.heap.size w W → W.rangeAt g (off + (2 * k + 1) * 32) (cellsL (ia L (2 * k + 1)))) := fun W h => (HL.out.below h).range _ hlt2
        have EQ := hide fun W => eqH ER _ _ l1.out l2.out W
        have HP := hide fun W => rpair_any _ _ l1.out l2.out W
        have hpl := pr_len (ia L (2 * k)) (ia L (2 * k + 1))
        generalize hia : ia L (2 * k) = A at *
        generalize hib : ia L (2 * k + 1) = B at *
        generalize hpr : pr A B = P at *
        have PL := hide hpl
        have bs : ∀ W, (bsg (.agg (hc P))).run Tryd.prog W = .ok (.slice (some ⟨W.heap.size, 0, none⟩) 1 1) (W.alloc (.cells (hc P) 38)) := fun W => ER.bs1 W P hpl
        obtain ⟨sm, hsm⟩ : ∃ sm, sm = twK L k := ⟨_, rfl⟩
        rw [← hsm] at TS ⊢
        clear hia hib hpr hpl hk hn hnx hodd hlt hlt2 hsm hT
        generalize hp : 2 * (k + 1) = p3 at *
        have HP3 := hide hp
        clear hp
        generalize 2 * k + 1 = p2 at *
        generalize 2 * k = p1 at *
        go_upto_region 7 with fail
        go_cut [5] from 31 to 43 (fun s5 wx => s5 = .bool (sm || (A == B)) ∧ Hid (Oj 38 w wx u4 (nxK L k)))
        case first =>
          obtain ⟨I, hne, F, i0, h0, hJ, hcl⟩ := J.out.cls
          cases sm
          · refine wp_region_class_lit (by kernel_rfl) (by kernel_rfl) i0 h0 ?_
            repeat (first | ((go_big_quiet_want; first | refine ET.qLoad ER _ (by rfl) g (off + p1 * 32) (by rfl) A l1.out (fun W hC => by obtain ⟨i, rfl⟩ := hC; exact R1.out _ (hJ.out i).bel) ?_ | refine ET.qLoad ER _ (by rfl) g (off + p2 * 32) (by rfl) B l2.out (fun W hC => by obtain ⟨i, rfl⟩ := hC; exact R2.out _ (hJ.out i).bel) ?_ | refine quiet_eql 38 _ _ _ (by rfl) (hc A) (hc B) (by rfl) (by rfl) eqg24 (A == B) EQ.out ?_); go_big_quiet_on; simp only [Act.put, List.setIfInBounds_toArray, List.set_cons_succ, List.set_cons_zero]) | go_big_quiet_step (fail))
            refine wpQuiet_nil ?_
            rintro _ ⟨iq, rfl⟩
            go_wp2_with fail
            go_meet
            exact ⟨by rw [Bool.false_or], hide (hJ.out iq)⟩
          · refine wp_region_class_lit (by kernel_rfl) (by kernel_rfl) i0 h0 ?_
            repeat (go_big_quiet_step (fail))
            refine wpQuiet_nil ?_
            rintro _ ⟨iq, rfl⟩
            go_wp2_with fail
            go_meet
            exact ⟨by rw [Bool.true_or], hide (hJ.out iq)⟩
        obtain ⟨rfl, J4⟩ := hcut
        clear J EQ
        generalize wc = W4 at *
        have ld1 : (ldg (.pointer (some ⟨g, off + p1 * 32, none⟩))).run Tryd.prog W4.drew = .ok (.agg (hc A)) W4.drew := ER.load l1.out (R1.out _ J4.out.bel.drew)
        have ld2 : (ldg (.pointer (some ⟨g, off + p2 * 32, none⟩))).run Tryd.prog W4.drew = .ok (.agg (hc B)) W4.drew := ER.load l2.out (R2.out _ J4.out.bel.drew)
        generalize hsb : (sm || (A == B)) = sb2 at *
        clear hsb
        go_upto_region 8 with fail
        go_region_law ((first | (go_simp; go_at_call 39; refine (HP.out _).mono ?_; rintro e w1 ⟨rfl, be⟩; have J1 := hide (J4.out.drew.next be); have J2 := hide (J1.out.next ((Below.refl _ _).alloc (Nat.le_refl _) (.cells (hc P) 38))); clear be) | (refine ET.step ER (by rfl) _ _ (by rfl) _ _ (by rfl) J2.out.own ⟨_, 0, none⟩ P PL.out (by rfl) (one_newH _ _) SZ.out ?_; intro v' w3 hown' hon3; have J3 := hide (J2.out.onto hon3 hown'))))
        all_goals
          go_wp2
          exact ⟨⟨k + 1, KK.out.1, by rw [HT.out, TS.out], by rw [HP3.out], by rw [SN.out]; exact J3⟩, by simpa [intOf] using KK.out.2⟩
    · have h1 : ¬ ((2 * k : Nat) : Int) < (L.length : Int) := by omega
      have hke : nxt L = nxK L k := by
        unfold nxt
        rw [show (L.length + 1) / 2 = k by omega]
      have hte : twb L = twK L (min k (L.length / 2)) := by
        unfold twb
        rw [show min k (L.length / 2) = L.length / 2 by omega]
      have HE := hide (And.intro hke hte)
      clear hke hlt hk hn hte
      generalize 2 * k = p1 at *
      go_wp2
      go_ret2
      exact ⟨u4, by rw [HE.out.2]; rfl, by rw [HE.out.1]; exact J.out⟩
end
end Go.Proofs.YthlaibkdcebekaaDoor
namespace Go.Proofs.YthlaibkdcebekaaDoor
open Go.RowKit
open Go.Deep
theorem LH.H {w : World} {v : Value} {L : List (List UInt8)} (h : LH w v L) : H32 L := h.1
theorem take_snocL (L : List (List UInt8)) (k : Nat) (h : k < L.length) : L.take (k + 1) = L.take k ++ [ia L k] := by
  rw [List.take_succ_eq_append_getElem h, ia_get L k h]
theorem H32.take {L : List (List UInt8)} (h : H32 L) (k : Nat) : H32 (L.take k) := fun x hx => h x (List.mem_of_mem_take hx)
theorem ia_take (L : List (List UInt8)) (n i : Nat) (h : i < n) : ia (L.take n) i = ia L i := by
  unfold ia
  rw [List.getD_eq_getElem?_getD, List.getD_eq_getElem?_getD, List.getElem?_take, if_pos h]
theorem LH.take {w : World} {ao : Option Addr} {n cap m : Nat} {L : List (List UInt8)} (h : LH w (.slice ao n cap) L) (hm : m ≤ L.length) : LH w (.slice ao m cap) (L.take m) := by
  obtain ⟨h1, ao', cap', e, h2, h3⟩ := h
  injection e with e1 e2 e3
  subst e1 e3
  have hl : (L.take m).length = m := by simp; omega
  refine ⟨h1.take m, ao, cap, by rw [hl], by omega, fun i hi => ?_⟩
  rw [hl] at hi
  rw [ia_take L m i hi]
  exact h3 i (by omega)
/-- Arrays held against each other by '!=', as an operation of a quiet walk. -/
theorem quiet_neqH {C : World → Prop} {a : Act} {o : Oper} {K : Act → Prop} (t : TypeId) (x y : Operand) (t2 : TypeId) (ho : o.op = .binOp .neq t x y t2) (c d : Array Value) (hx : a.eval x = .agg c) (hy : a.eval y = .agg d) (hg : Tryd.prog.eqGuardType Tryd.prog.depth t = false)
    (v : Bool) (hr : ∀ W, (Op.equalIn 10000 t (.agg c) (.agg d)).run Tryd.prog W = .ok v W) (hk : K (a.put o.dst (.bool !v))) : o.quiet Tryd.prog a C K := by
  refine ⟨.bool !v, fun W _ => ?_, hk⟩
  unfold Oper.quietAt execOp
  simp only [ho, hx, hy, Sem.run_bind, run_eqGuard_agg (P := Tryd.prog) W .neq t x y c d hg, run_neq_struct, hr W, Result.andThen_ok, Sem.run_pure]
  exact ⟨rfl, rfl⟩
section
set_option maxRecDepth 10000
set_option maxHeartbeats 2000000
theorem few_any (v : Value) (L : List (List UInt8)) (w : World) (hL : LH w v L) : Calls Tryd.prog 5 #[v] w fun e w' => ∃ v', e = .returned v' ∧ w' = w ∧ LH w v' (L.take 300) := by
  obtain ⟨ao, cap, rfl⟩ := hL.form
  by_cases h : 300 < L.length
  · have h1 : (300 : Int) < (L.length : Int) := by omega
    obtain ⟨g, off, rfl⟩ := hL.base (by omega)
    have h2 : 300 ≤ cap := by
      obtain ⟨_, _, _, e, h2, _⟩ := hL
      injection e with e1 e2 e3
      omega
    have HT := hide (hL.take (m := 300) (by omega))
    have h3 : (300 : Int) ≤ (cap : Int) := by omega
    clear hL h
    go_enter Tryd.func5, Tryd.ntmps5
    go_wp2
    go_ret
    exact ⟨_, rfl, rfl, HT.out⟩
  · have h1 : ¬ (300 : Int) < (L.length : Int) := by omega
    have HT := hide hL
    have he : L.take 300 = L := List.take_of_length_le (by omega)
    have HE := hide he
    clear hL h he
    go_enter Tryd.func5, Tryd.ntmps5
    go_wp2
    go_ret
    exact ⟨_, rfl, rfl, by rw [HE.out]; exact HT.out⟩
theorem given_any (v : Value) (L : List (List UInt8)) (w : World) (hL : LH w v L) (hn : L.length < 4398046511104) : Calls Tryd.prog 9 #[v] w fun e w' => ∃ v', e = .returned v' ∧ Oj 38 w w' v' L := by
  obtain ⟨ao, cap, rfl⟩ := hL.form
  have HL := hide hL
  have HN := hide hn
  have H3 := hide hL.1
  have J0 : Hid (Oj 38 w (w.alloc (.cells #[] 38)) (.slice (some ⟨w.heap.size, 0, none⟩) 0 0) (L.take 0)) := ⟨by rw [List.take_zero]; exact OH.new0 w, (Below.refl _ _).alloc (Nat.le_refl _) _, fun g hg => by cases hg; exact Nat.le_refl _⟩
  clear hL hn
  go_enter Tryd.func9, Tryd.ntmps9
  go_wp2_with (refine ET.wpBs0 ER rfl rfl ?_)
  generalize w.alloc (.cells #[] 38) = W0 at *
  go_loopw [3, 5, 9] (fun v _ d wr => ∃ k : Nat, k ≤ L.length ∧ d = .int .i64 (k : Int) ∧ Hid (Oj 38 w wr v (L.take k))) (fun _ _ d _ => (L.length - intOf d).toNat)
  case atStart => exact ⟨0, Nat.zero_le _, rfl, J0⟩
  case round =>
    clear J0
    obtain ⟨k, hk, rfl, J⟩ := hrel
    have hn := HN.out
    by_cases hlt : k < L.length
    · obtain ⟨g, off, rfl⟩ := HL.out.base (by omega)
      have h1 : (k : Int) < (L.length : Int) := by omega
      have h2 : (0 : Int) ≤ (k : Int) := by omega
      have e2 : IntKind.i64.wrap ((k : Int) + 1) = k + 1 := wrapI _ (by omega) (by omega)
      have l1 := hide (H3.out.at k hlt)
      have R1 := hide ((HL.out.below J.out.bel).range k hlt)
      have SN := hide (take_snocL L k hlt)
      have SZ := hide (show (L.take k).length + 1 ≤ 4398046511104 by rw [List.length_take]; omega)
      have KK := hide (And.intro (show k + 1 ≤ L.length by omega) (show ((L.length : Int) - ((k + 1 : Nat) : Int)).toNat < ((L.length : Int) - (k : Int)).toNat by omega))
      generalize ia L k = A at *
      have J1 := hide (J.out.next ((Below.refl _ _).alloc (Nat.le_refl _) (.cells (hc A) 39)))
      have J2 := hide (J1.out.next ((Below.refl _ _).alloc (Nat.le_refl _) (.cells (hc A) 38)))
      have b1 := hide (heap_alloc_last wr (.cells (hc A) 39))
      clear hlt hk hn
      go_wp2_with (first | refine ET.wpLoad EH rfl _ rfl g (off + k * 32) rfl A l1.out R1.out ?_ | refine wpList_allocA A25 rfl rfl ?_ | refine wpList_store_newA A25 rfl _ _ rfl _ rfl (hc A) (by rw [hc_size, l1.out]) (hc_one _) rfl rfl ?_ | refine wpList_loadA A25 rfl _ rfl _ rfl (hc A) (by rw [hc_size, l1.out]) 39 b1.out ?_ | refine ET.wpBs1 ER rfl _ rfl A l1.out rfl ?_ | (at_builtin; refine ET.wpApp ER rfl _ _ rfl u3 _ rfl J2.out.own ⟨_, 0, none⟩ A l1.out rfl (one_newH _ _) SZ.out ?_; intro v' w3 hown' hon3; have J3 := hide (J2.out.onto hon3 hown')))
      exact ⟨⟨k + 1, KK.out.1, by go_num, by rw [SN.out]; exact J3⟩, by simpa [intOf] using KK.out.2⟩
    · have h1 : ¬ (k : Int) < (L.length : Int) := by omega
      have hke : L.take k = L := List.take_of_length_le (by omega)
      rw [hke] at J
      clear hke hlt hk hn
      go_wp2
      go_ret
      exact ⟨u3, rfl, J.out⟩
theorem same_any (v1 v2 : Value) (L : List (List UInt8)) (w : World) (h1 : LH w v1 L) (h2 : LH w v2 L) (hn : L.length < 4398046511104) : Calls Tryd.prog 10 #[v1, v2] w fun e w' => e = .returned (.bool true) ∧ Below w.heap.size w w' := by
  obtain ⟨ao, cap, rfl⟩ := h1.form
  obtain ⟨bo, cap2, rfl⟩ := h2.form
  have H1 := hide h1
  have H2 := hide h2
  have HN := hide hn
  have H3 := hide h1.1
  have J0 := hide (Below.refl w.heap.size w)
  clear h1 h2 hn
  go_enter Tryd.func10, Tryd.ntmps10
  go_wp2
  go_loopw [5, 13] (fun _ d wr => ∃ k : Nat, k ≤ L.length ∧ d = .int .i64 (k : Int) ∧ Hid (Below w.heap.size w wr)) (fun _ d _ => (L.length - intOf d).toNat)
  case atStart => exact ⟨0, Nat.zero_le _, rfl, J0⟩
  case round =>
    clear J0
    obtain ⟨k, hk, rfl, J⟩ := hrel
    have hn := HN.out
    by_cases hlt : k < L.length
    · obtain ⟨g, off, rfl⟩ := H1.out.base (by omega)
      obtain ⟨g2, off2, rfl⟩ := H2.out.base (by omega)
      have h1 : (k : Int) < (L.length : Int) := by omega
      have h2 : (0 : Int) ≤ (k : Int) := by omega
      have e2 : IntKind.i64.wrap ((k : Int) + 1) = k + 1 := wrapI _ (by omega) (by omega)
      have l1 := hide (H3.out.at k hlt)
      have R1 : Hid (∀ W, Below w.heap.size w W → W.rangeAt g (off + k * 32) (cellsL (ia L k))) := fun W h => (H1.out.below h).range k hlt
      have R2 : Hid (∀ W, Below w.heap.size w W → W.rangeAt g2 (off2 + k * 32) (cellsL (ia L k))) := fun W h => (H2.out.below h).range k hlt
      have EQ := hide fun W => eqH EH _ _ l1.out l1.out W
      rw [show (ia L k == ia L k) = true by simp] at EQ
      have KK := hide (And.intro (show k + 1 ≤ L.length by omega) (show ((L.length : Int) - ((k + 1 : Nat) : Int)).toNat < ((L.length : Int) - (k : Int)).toNat by omega))
      generalize ia L k = A at *
      clear hlt hk hn
      go_upto_region 6 with fail
      obtain ⟨I, hne, F, i0, h0, hJ, hcl⟩ : ∃ (I : Type) (_ : Nonempty I) (F : I → World) (i0 : I), wr.drew = F i0 ∧ Hid (∀ i, Below w.heap.size w (F i)) ∧ Hid (∀ i W', Below (F i).heap.size (F i) W' → ∃ j, W' = F j) :=
        ⟨{W : World // Below w.heap.size w W}, ⟨⟨_, J.out⟩⟩, Subtype.val, ⟨wr.drew, J.out.drew⟩, rfl, fun i => i.2, fun i W' b => ⟨⟨W', below_next i.2 b⟩, rfl⟩⟩
      refine wp_region_class_lit (by kernel_rfl) (by kernel_rfl) i0 h0 ?_
      repeat (first | ((go_big_quiet_want; first | refine ET.qLoad EH _ (by rfl) g (off + k * 32) (by rfl) A l1.out (fun W hC => by obtain ⟨i, rfl⟩ := hC; exact R1.out _ (hJ.out i)) ?_ | refine ET.qLoad ER _ (by rfl) g2 (off2 + k * 32) (by rfl) A l1.out (fun W hC => by obtain ⟨i, rfl⟩ := hC; exact R2.out _ (hJ.out i)) ?_ | refine quiet_neqH 39 _ _ _ (by rfl) (hc A) (hc A) (by rfl) (by rfl) eqg25 true EQ.out ?_); go_big_quiet_on; simp only [Act.put, List.setIfInBounds_toArray, List.set_cons_succ, List.set_cons_zero, Bool.not_true]) | go_big_quiet_step (fail))
      refine wpQuiet_nil ?_
      rintro _ ⟨iq, rfl⟩
      have J2 := hide (hJ.out iq)
      clear hJ hcl h0 J R1 R2 EQ
      generalize F iq = W2 at *
      go_wp2
      exact ⟨⟨k + 1, KK.out.1, by go_num, J2⟩, by simpa [intOf] using KK.out.2⟩
    · have h1 : ¬ (k : Int) < (L.length : Int) := by omega
      clear hlt hk hn
      go_wp2
      go_ret
      exact ⟨rfl, J.out⟩
end
end Go.Proofs.YthlaibkdcebekaaDoor
