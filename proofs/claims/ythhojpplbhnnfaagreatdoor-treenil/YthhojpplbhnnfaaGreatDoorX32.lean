/- The contract of above. The contract of the document's Next. The contracts of the statements' given, same and few. The contracts of the library's Len64 and Len, of Depth and the document's Depth. -/
import Derived.Test.YthhojpplbhnnfaaGreatDoorX31
import Derived.Test.YthhojpplbhnnfaaGreatDoorX12
namespace Go.Proofs.YthhojpplbhnnfaaGreatDoor
open Go.RowKit
open Go.Deep
def ldh (x : Value) : Sem Value := Instr.loadAt 46 x
theorem ldh_eq (x : Value) : Instr.loadAt 46 x = ldh x := rfl
def bsh (x : Value) : Sem Value := Instr.buildSlice 40 1 #[(0, x)]
theorem bsh_eq (x : Value) : Instr.buildSlice 40 1 #[(0, x)] = bsh x := rfl
theorem Onto.of_below {W W' : World} (h : Below W.heap.size W W') (v : Value) : Onto W W' v v := ⟨⟨h.os, h.tape, h.output, h.size, fun k hk _ => h.block k hk⟩, .inl rfl⟩
theorem OH.drew {e : TypeId} {w : World} {v : Value} {L : List (List UInt8)} (h : OH e w v L) : OH e w.drew v L := h.of_block fun _ _ => rfl
/-- A list of the program's own, in blocks that a call made. -/
structure Oj (e : TypeId) (w W : World) (v : Value) (L : List (List UInt8)) : Prop where
  own : OH e W v L
  bel : Below w.heap.size w W
  far : ∀ g, v.ownBlock = some g → w.heap.size ≤ g
section
variable {e : TypeId} {w W W' : World} {v v' : Value} {L L' : List (List UInt8)}
theorem Oj.next (j : Oj e w W v L) (h : Below W.heap.size W W') : Oj e w W' v L := ⟨j.own.below h, below_next j.bel h, j.far⟩
theorem Oj.drew (j : Oj e w W v L) : Oj e w W.drew v L := j.next (Below.refl _ _).drew
theorem Oj.onto (j : Oj e w W v L) (h : Onto W W' v v') (o : OH e W' v' L') : Oj e w W' v' L' := ⟨o, j.bel.trans (h.below j.bel.size j.far), h.far j.bel.size j.far⟩
/-- Worlds in which the list lies, as a class. -/
theorem Oj.cls (j : Oj e w W v L) : ∃ (I : Type) (_ : Nonempty I) (F : I → World) (i0 : I), W.drew = F i0 ∧ Hid (∀ i, Oj e w (F i) v L) ∧ Hid (∀ i W', Below (F i).heap.size (F i) W' → ∃ j, W' = F j) :=
  ⟨{W : World // Oj e w W v L}, ⟨⟨_, j⟩⟩, Subtype.val, ⟨W.drew, j.drew⟩, rfl, fun i => i.2, fun i W' b => ⟨⟨W', i.2.next b⟩, rfl⟩⟩
end
attribute [-go_sem] Instr.buildSlice
attribute [local go_sem ↓] ldh_eq
attribute [local go_sem] bsh_eq
section
set_option maxRecDepth 10000
set_option maxHeartbeats 4000000
theorem above_any (v : Value) (L : List (List UInt8)) (w : World) (hL : LH w v L) (hn : L.length < 4398046511104) (hK : Kg w) : Calls Tryz.prog 227 #[v] w fun e w' => ∃ v', e = .returned v' ∧ Oj 46 w w' v' (nxt L) := by
  obtain ⟨ao, cap, rfl⟩ := hL.form
  obtain ⟨i0, z, hi, hz, hzs, hs, hby⟩ := EH.parts
  have HL := hide hL
  have KW : Hid (∀ W, Below w.heap.size w W → Kg W) := fun W h => hK.next h
  have HW := hide fun W => width_any L.length 1 (by omega) (by omega) W
  have HN := hide hn
  have H3 := hide hL.1
  have hw1 : wdt L.length 1 = (L.length + 1) / 2 := rfl
  rw [hw1] at HW
  clear hL hK hw1
  go_enter Tryz.func227, Tryz.ntmps227
  go_wp2_with (first | (go_at_call 245; refine (HW.out _).mono ?_; rintro e w1 ⟨rfl, hww⟩; subst w1) | (at_make; refine wpList_make_own _ rfl _ _ 40 rfl 0 46 i0 z 32 Tryz.underlying40 hi hz hs _ _ _ ((L.length + 1) / 2) rfl rfl (by omega) (by rw [hby]; omega) (by unfold maxLen; omega) (Nat.zero_le _) ?_; intro w2 hown1 hgrow1))
  have J0 : Hid (Oj 46 w w2 (.slice (some ⟨w.heap.size, 0, none⟩) 0 ((L.length + 1) / 2)) (nxK L 0)) := ⟨⟨H32.nil, hown1⟩, (Below.refl _ _).grown hgrow1 (Nat.le_refl _) (by intro k hk; cases hk), fun g hg => by cases hg; exact Nat.le_refl _⟩
  clear hown1 hgrow1 hi hz hzs hs hby HW
  go_loopw [3, 4] (fun v d wr => ∃ k : Nat, k ≤ (L.length + 1) / 2 ∧ d = .int .i64 ((2 * k : Nat) : Int) ∧ Hid (Oj 46 w wr v (nxK L k))) (fun _ d _ => (L.length + 2 - intOf d).toNat)
  case atStart => exact ⟨0, Nat.zero_le _, rfl, J0⟩
  case round =>
    clear J0
    obtain ⟨k, hk, rfl, J⟩ := hrel
    have hn := HN.out
    by_cases hlt : 2 * k < L.length
    · obtain ⟨g, off, rfl⟩ := HL.out.base (by omega)
      have h1 : ((2 * k : Nat) : Int) < (L.length : Int) := by omega
      have hm := mt_lt L.length (2 * k) hlt
      have l1 := hide (H3.out.at (2 * k) (by omega))
      have l2 := hide (H3.out.at _ hm)
      have HM := hide fun W => mate_any (2 * k) L.length (by omega) W
      have LD : Hid (∀ W, Below w.heap.size w W → Below w.heap.size w W ∧ (ldh (.pointer (some ⟨g, off + (2 * k) * 32, none⟩))).run Tryz.prog W = .ok (.agg (hc (ia L (2 * k)))) W ∧ (ldh (.pointer (some ⟨g, off + (mtM L.length (2 * k)) * 32, none⟩))).run Tryz.prog W = .ok (.agg (hc (ia L (mtM L.length (2 * k))))) W) := fun W h => ⟨h, EH.load l1.out ((HL.out.below h).range _ hlt), EH.load l2.out ((HL.out.below h).range _ hm)⟩
      have HP := hide fun W hW => pair_any _ _ l1.out l2.out W hW
      have hpl := pr_len (ia L (2 * k)) (ia L (mtM L.length (2 * k)))
      have SN := hide (nxK_snoc L k)
      rw [show nx L k = pr (ia L (2 * k)) (ia L (mtM L.length (2 * k))) from rfl] at SN
      have e2 : IntKind.i64.wrap (((2 * k : Nat) : Int) + 2) = ((2 * (k + 1) : Nat) : Int) := by rw [wrapI _ (by omega) (by omega)]; omega
      have h2 : (0 : Int) ≤ ((2 * k : Nat) : Int) := by omega
      have h3 : ((mtM L.length (2 * k) : Nat) : Int) < (L.length : Int) := by omega
      have h4 : (0 : Int) ≤ ((mtM L.length (2 * k) : Nat) : Int) := by omega
      have KK := hide (And.intro (show k + 1 ≤ (L.length + 1) / 2 by omega) (show ((L.length : Int) + 2 - ((2 * (k + 1) : Nat) : Int)).toNat < ((L.length : Int) + 2 - ((2 * k : Nat) : Int)).toNat by omega))
      have SZ := hide (show (nxK L k).length + 1 ≤ 4398046511104 by rw [nxK_len]; omega)
      generalize hia : ia L (2 * k) = A at *
      generalize hib : ia L (mtM L.length (2 * k)) = B at *
      generalize hpr : pr A B = P at *
      have PL := hide hpl
      have bs : ∀ W, (bsh (.agg (hc P))).run Tryz.prog W = .ok (.slice (some ⟨W.heap.size, 0, none⟩) 1 1) (W.alloc (.cells (hc P) 46)) := fun W => EH.bs1 W P hpl
      clear hia hib hpr hpl hk hn
      generalize hp : 2 * (k + 1) = p3 at *
      have HP3 := hide hp
      clear hp hm hlt
      generalize mtM L.length (2 * k) = q at *
      generalize 2 * k = p1 at *
      go_upto_region 5 with fail
      have ld1 := (LD.out _ J.out.bel.drew).2.1
      have ld2 := (LD.out _ J.out.bel.drew).2.2
      go_region_law ((first | (go_simp; go_at_call 247; refine (HM.out _).mono ?_; rintro e w1 ⟨rfl, hww⟩; subst w1) | (go_simp; go_at_call 246; refine (HP.out _ (KW.out _ J.out.bel.drew)).mono ?_; rintro e w1 ⟨rfl, be⟩; have J1 := hide ((J.out.next (Below.refl _ _).drew).next be); have J2 := hide (J1.out.next ((Below.refl _ _).alloc (Nat.le_refl _) (.cells (hc P) 46))); clear be) | (refine ET.step EH (by rfl) _ _ (by rfl) _ _ (by rfl) J2.out.own ⟨_, 0, none⟩ P PL.out (by rfl) (one_newH _ _) SZ.out ?_; intro v' w3 hown' hon3; have J3 := hide (J2.out.onto hon3 hown'))))
      all_goals
        go_wp2
        exact ⟨⟨k + 1, KK.out.1, by rw [HP3.out], by rw [SN.out]; exact J3⟩, by simpa [intOf] using KK.out.2⟩
    · have h1 : ¬ ((2 * k : Nat) : Int) < (L.length : Int) := by omega
      have hke : nxt L = nxK L k := by
        unfold nxt
        rw [show (L.length + 1) / 2 = k by omega]
      have HE := hide hke
      clear hke hlt hk hn
      generalize 2 * k = p1 at *
      go_wp2
      go_ret
      exact ⟨u3, rfl, by rw [HE.out]; exact J.out⟩
end
end Go.Proofs.YthhojpplbhnnfaaGreatDoor
namespace Go.Proofs.YthhojpplbhnnfaaGreatDoor
open Go.RowKit
open Go.Deep
def ldg (x : Value) : Sem Value := Instr.loadAt 45 x
theorem ldg_eq (x : Value) : Instr.loadAt 45 x = ldg x := rfl
def bsg (x : Value) : Sem Value := Instr.buildSlice 231 1 #[(0, x)]
theorem bsg_eq (x : Value) : Instr.buildSlice 231 1 #[(0, x)] = bsg x := rfl
theorem mt_even (n k : Nat) : mtM n (2 * k) = if 2 * k + 1 < n then 2 * k + 1 else 2 * k := by
  have h : 2 * k % 2 = 0 := by omega
  simp only [mtM, h, if_true]
attribute [-go_sem] Instr.buildSlice
attribute [local go_sem ↓] ldg_eq
attribute [local go_sem] bsg_eq
section
set_option maxRecDepth 10000
set_option maxHeartbeats 4000000
theorem rnext_any (v : Value) (L : List (List UInt8)) (w : World) (hL : LH w v L) (hn : L.length < 4398046511104) : Calls Tryz.prog 194 #[v] w fun e w' => ∃ v', e = .returned (.tuple #[v', .bool (twb L)]) ∧ Oj 45 w w' v' (nxt L) := by
  obtain ⟨ao, cap, rfl⟩ := hL.form
  have HL := hide hL
  have HN := hide hn
  have H3 := hide hL.1
  have J0 : Hid (Oj 45 w (w.alloc (.cells #[] 45)) (.slice (some ⟨w.heap.size, 0, none⟩) 0 0) (nxK L 0)) := ⟨OH.new0 w, (Below.refl _ _).alloc (Nat.le_refl _) _, fun g hg => by cases hg; exact Nat.le_refl _⟩
  clear hL
  go_enter Tryz.func194, Tryz.ntmps194
  go_wp2_with (refine ET.wpBs0 ER rfl rfl ?_)
  generalize w.alloc (.cells #[] 45) = W0 at *
  go_loopw [4, 5, 6] (fun v s d wr => ∃ k : Nat, k ≤ (L.length + 1) / 2 ∧ s = .bool (twK L (min k (L.length / 2))) ∧ d = .int .i64 ((2 * k : Nat) : Int) ∧ Hid (Oj 45 w wr v (nxK L k))) (fun _ _ d _ => (L.length + 2 - intOf d).toNat)
  case atStart => exact ⟨0, Nat.zero_le _, rfl, rfl, J0⟩
  case round =>
    clear J0
    obtain ⟨k, hk, rfl, rfl, J⟩ := hrel
    have hn := HN.out
    by_cases hlt : 2 * k < L.length
    · obtain ⟨g, off, rfl⟩ := HL.out.base (by omega)
      have h1 : ((2 * k : Nat) : Int) < (L.length : Int) := by omega
      have e2 : IntKind.i64.wrap (((2 * k : Nat) : Int) + 2) = ((2 * (k + 1) : Nat) : Int) := by rw [wrapI _ (by omega) (by omega)]; omega
      have e3 : IntKind.i64.wrap (((2 * k : Nat) : Int) + 1) = ((2 * k + 1 : Nat) : Int) := by rw [wrapI _ (by omega) (by omega)]; omega
      have h2 : (0 : Int) ≤ ((2 * k : Nat) : Int) := by omega
      have KK := hide (And.intro (show k + 1 ≤ (L.length + 1) / 2 by omega) (show ((L.length : Int) + 2 - ((2 * (k + 1) : Nat) : Int)).toNat < ((L.length : Int) + 2 - ((2 * k : Nat) : Int)).toNat by omega))
      have SZ := hide (show (nxK L k).length + 1 ≤ 4398046511104 by rw [nxK_len]; omega)
      have SN := hide (nxK_snoc L k)
      have l1 := hide (H3.out.at (2 * k) (by omega))
      by_cases hodd : 2 * k + 1 = L.length
      · have hnx : nx L k = pr (ia L (2 * k)) (ia L (2 * k)) := by
          unfold nx
          rw [mt_even, if_neg (by omega)]
        rw [hnx] at SN
        have HT := hide (show min (k + 1) (L.length / 2) = min k (L.length / 2) by omega)
        have h5 : (((2 * k + 1 : Nat) : Int) == (L.length : Int)) = true := by simp; omega
        have ld1 : (ldg (.pointer (some ⟨g, off + (2 * k) * 32, none⟩))).run Tryz.prog wr.drew = .ok (.agg (hc (ia L (2 * k)))) wr.drew := ER.load l1.out ((HL.out.below J.out.bel.drew).range _ hlt)
        have HP := hide fun W => rpair_any _ _ l1.out l1.out W
        have hpl := pr_len (ia L (2 * k)) (ia L (2 * k))
        generalize hia : ia L (2 * k) = A at *
        generalize hpr : pr A A = P at *
        have PL := hide hpl
        have bs : ∀ W, (bsg (.agg (hc P))).run Tryz.prog W = .ok (.slice (some ⟨W.heap.size, 0, none⟩) 1 1) (W.alloc (.cells (hc P) 45)) := fun W => ER.bs1 W P hpl
        obtain ⟨sm, hsm⟩ : ∃ sm, sm = twK L (min k (L.length / 2)) := ⟨_, rfl⟩
        have HSM := hide hsm
        rw [← hsm]
        clear hia hpr hpl hk hn hnx hodd hlt hsm
        generalize hp : 2 * (k + 1) = p3 at *
        have HP3 := hide hp
        clear hp
        generalize 2 * k + 1 = p2 at *
        generalize 2 * k = p1 at *
        go_upto_region 6 with fail
        go_region_law ((first | (go_simp; go_at_call 236; refine (HP.out _).mono ?_; rintro e w1 ⟨rfl, be⟩; have J1 := hide (J.out.drew.next be); have J2 := hide (J1.out.next ((Below.refl _ _).alloc (Nat.le_refl _) (.cells (hc P) 45))); clear be) | (refine ET.step ER (by rfl) _ _ (by rfl) _ _ (by rfl) J2.out.own ⟨_, 0, none⟩ P PL.out (by rfl) (one_newH _ _) SZ.out ?_; intro v' w3 hown' hon3; have J3 := hide (J2.out.onto hon3 hown'))))
        all_goals
          go_wp2
          exact ⟨⟨k + 1, KK.out.1, by rw [HT.out, ← HSM.out], by rw [HP3.out], by rw [SN.out]; exact J3⟩, by simpa [intOf] using KK.out.2⟩
      · have hlt2 : 2 * k + 1 < L.length := by omega
        have hnx : nx L k = pr (ia L (2 * k)) (ia L (2 * k + 1)) := by
          unfold nx
          rw [mt_even, if_pos hlt2]
        rw [hnx] at SN
        have l2 := hide (H3.out.at (2 * k + 1) hlt2)
        have TS := hide (twK_snoc L k)
        have HT : Hid (min (k + 1) (L.length / 2) = k + 1) := by show _ = _; omega
        have hT : min k (L.length / 2) = k := by omega
        rw [hT]
        have h5 : (((2 * k + 1 : Nat) : Int) == (L.length : Int)) = false := by simp; omega
        have h6 : ((2 * k + 1 : Nat) : Int) < (L.length : Int) := by omega
        have h7 : (0 : Int) ≤ ((2 * k + 1 : Nat) : Int) := by omega
        have R1 : Hid (∀ W, Below w.heap.size w W → W.rangeAt g (off + (2 * k) * 32) (cellsL (ia L (2 * k)))) := fun W h => (HL.out.below h).range _ hlt
        have R2 : Hid (∀ W, Below w.heap.size w W → W.rangeAt g (off + (2 * k + 1) * 32) (cellsL (ia L (2 * k + 1)))) := fun W h => (HL.out.below h).range _ hlt2
        have EQ := hide fun W => eqH ER _ _ l1.out l2.out W
        have HP := hide fun W => rpair_any _ _ l1.out l2.out W
        have hpl := pr_len (ia L (2 * k)) (ia L (2 * k + 1))
        generalize hia : ia L (2 * k) = A at *
        generalize hib : ia L (2 * k + 1) = B at *
        generalize hpr : pr A B = P at *
        have PL := hide hpl
        have bs : ∀ W, (bsg (.agg (hc P))).run Tryz.prog W = .ok (.slice (some ⟨W.heap.size, 0, none⟩) 1 1) (W.alloc (.cells (hc P) 45)) := fun W => ER.bs1 W P hpl
        obtain ⟨sm, hsm⟩ : ∃ sm, sm = twK L k := ⟨_, rfl⟩
        rw [← hsm] at TS ⊢
        clear hia hib hpr hpl hk hn hnx hodd hlt hlt2 hsm hT
        generalize hp : 2 * (k + 1) = p3 at *
        have HP3 := hide hp
        clear hp
        generalize 2 * k + 1 = p2 at *
        generalize 2 * k = p1 at *
        go_upto_region 7 with fail
        go_cut [5] from 31 to 43 (fun s5 wx => s5 = .bool (sm || (A == B)) ∧ Hid (Oj 45 w wx u4 (nxK L k)))
        case first =>
          obtain ⟨I, hne, F, i0, h0, hJ, hcl⟩ := J.out.cls
          cases sm
          · refine wp_region_class_lit (by kernel_rfl) (by kernel_rfl) i0 h0 ?_
            repeat (first | ((go_big_quiet_want; first | refine ET.qLoad ER _ (by rfl) g (off + p1 * 32) (by rfl) A l1.out (fun W hC => by obtain ⟨i, rfl⟩ := hC; exact R1.out _ (hJ.out i).bel) ?_ | refine ET.qLoad ER _ (by rfl) g (off + p2 * 32) (by rfl) B l2.out (fun W hC => by obtain ⟨i, rfl⟩ := hC; exact R2.out _ (hJ.out i).bel) ?_ | refine quiet_eql 45 _ _ _ (by rfl) (hc A) (hc B) (by rfl) (by rfl) eqg24 (A == B) EQ.out ?_); go_big_quiet_on; simp only [Act.put, List.setIfInBounds_toArray, List.set_cons_succ, List.set_cons_zero]) | go_big_quiet_step (fail))
            refine wpQuiet_nil ?_
            rintro _ ⟨iq, rfl⟩
            go_wp2_with fail
            go_meet
            exact ⟨by rw [Bool.false_or], hide (hJ.out iq)⟩
          · refine wp_region_class_lit (by kernel_rfl) (by kernel_rfl) i0 h0 ?_
            repeat (go_big_quiet_step (fail))
            refine wpQuiet_nil ?_
            rintro _ ⟨iq, rfl⟩
            go_wp2_with fail
            go_meet
            exact ⟨by rw [Bool.true_or], hide (hJ.out iq)⟩
        obtain ⟨rfl, J4⟩ := hcut
        clear J EQ
        generalize wc = W4 at *
        have ld1 : (ldg (.pointer (some ⟨g, off + p1 * 32, none⟩))).run Tryz.prog W4.drew = .ok (.agg (hc A)) W4.drew := ER.load l1.out (R1.out _ J4.out.bel.drew)
        have ld2 : (ldg (.pointer (some ⟨g, off + p2 * 32, none⟩))).run Tryz.prog W4.drew = .ok (.agg (hc B)) W4.drew := ER.load l2.out (R2.out _ J4.out.bel.drew)
        generalize hsb : (sm || (A == B)) = sb2 at *
        clear hsb
        go_upto_region 8 with fail
        go_region_law ((first | (go_simp; go_at_call 236; refine (HP.out _).mono ?_; rintro e w1 ⟨rfl, be⟩; have J1 := hide (J4.out.drew.next be); have J2 := hide (J1.out.next ((Below.refl _ _).alloc (Nat.le_refl _) (.cells (hc P) 45))); clear be) | (refine ET.step ER (by rfl) _ _ (by rfl) _ _ (by rfl) J2.out.own ⟨_, 0, none⟩ P PL.out (by rfl) (one_newH _ _) SZ.out ?_; intro v' w3 hown' hon3; have J3 := hide (J2.out.onto hon3 hown'))))
        all_goals
          go_wp2
          exact ⟨⟨k + 1, KK.out.1, by rw [HT.out, TS.out], by rw [HP3.out], by rw [SN.out]; exact J3⟩, by simpa [intOf] using KK.out.2⟩
    · have h1 : ¬ ((2 * k : Nat) : Int) < (L.length : Int) := by omega
      have hke : nxt L = nxK L k := by
        unfold nxt
        rw [show (L.length + 1) / 2 = k by omega]
      have hte : twb L = twK L (min k (L.length / 2)) := by
        unfold twb
        rw [show min k (L.length / 2) = L.length / 2 by omega]
      have HE := hide (And.intro hke hte)
      clear hke hlt hk hn hte
      generalize 2 * k = p1 at *
      go_wp2
      go_ret2
      exact ⟨u4, by rw [HE.out.2]; rfl, by rw [HE.out.1]; exact J.out⟩
end
end Go.Proofs.YthhojpplbhnnfaaGreatDoor
namespace Go.Proofs.YthhojpplbhnnfaaGreatDoor
open Go.RowKit
open Go.Deep
theorem LH.H {w : World} {v : Value} {L : List (List UInt8)} (h : LH w v L) : H32 L := h.1
theorem take_snocL (L : List (List UInt8)) (k : Nat) (h : k < L.length) : L.take (k + 1) = L.take k ++ [ia L k] := by
  rw [List.take_succ_eq_append_getElem h, ia_get L k h]
theorem H32.take {L : List (List UInt8)} (h : H32 L) (k : Nat) : H32 (L.take k) := fun x hx => h x (List.mem_of_mem_take hx)
theorem ia_take (L : List (List UInt8)) (n i : Nat) (h : i < n) : ia (L.take n) i = ia L i := by
  unfold ia
  rw [List.getD_eq_getElem?_getD, List.getD_eq_getElem?_getD, List.getElem?_take, if_pos h]
theorem LH.take {w : World} {ao : Option Addr} {n cap m : Nat} {L : List (List UInt8)} (h : LH w (.slice ao n cap) L) (hm : m ≤ L.length) : LH w (.slice ao m cap) (L.take m) := by
  obtain ⟨h1, ao', cap', e, h2, h3⟩ := h
  injection e with e1 e2 e3
  subst e1 e3
  have hl : (L.take m).length = m := by simp; omega
  refine ⟨h1.take m, ao, cap, by rw [hl], by omega, fun i hi => ?_⟩
  rw [hl] at hi
  rw [ia_take L m i hi]
  exact h3 i (by omega)
/-- Arrays held against each other by '!=', as an operation of a quiet walk. -/
theorem quiet_neqH {C : World → Prop} {a : Act} {o : Oper} {K : Act → Prop} (t : TypeId) (x y : Operand) (t2 : TypeId) (ho : o.op = .binOp .neq t x y t2) (c d : Array Value) (hx : a.eval x = .agg c) (hy : a.eval y = .agg d) (hg : Tryz.prog.eqGuardType Tryz.prog.depth t = false)
    (v : Bool) (hr : ∀ W, (Op.equalIn 10000 t (.agg c) (.agg d)).run Tryz.prog W = .ok v W) (hk : K (a.put o.dst (.bool !v))) : o.quiet Tryz.prog a C K := by
  refine ⟨.bool !v, fun W _ => ?_, hk⟩
  unfold Oper.quietAt execOp
  simp only [ho, hx, hy, Sem.run_bind, run_eqGuard_agg (P := Tryz.prog) W .neq t x y c d hg, run_neq_struct, hr W, Result.andThen_ok, Sem.run_pure]
  exact ⟨rfl, rfl⟩
section
set_option maxRecDepth 10000
set_option maxHeartbeats 2000000
end
end Go.Proofs.YthhojpplbhnnfaaGreatDoor
namespace Go.Proofs.YthhojpplbhnnfaaGreatDoor
open Go.RowKit
open Go.Deep
section
set_option maxRecDepth 10000
set_option maxHeartbeats 1000000
/-- The library's table of bits. -/
theorem wpList_len8M {w : World} {ops : Array Oper} {rest : List Oper} {o : Oper} {a : Act} {Q : Exit → Act → World → Prop} (hgd : o.guard = none) (T : ByteArray) (x : Operand) (ho : o.op = .index 9 (.const (.string T)) x) (X : Int) (hx : a.eval x = .int .u8 X) (j : Nat) (hX : X = j) (hj : j < 256)
    (hT : ∀ k : Fin 256, T.data[k.val]?.map (·.toNat) = some (bl k.val))
    (h : wpList Tryz.prog ops Q rest (a.put o.dst (.int .u8 ((bl j : Nat) : Int))) w) : wpList Tryz.prog ops Q (o :: rest) a w := by
  subst hX
  refine wpList_plain hgd fun K hK => ?_
  have e := hT ⟨j, hj⟩
  simp only [Option.map_eq_some_iff] at e
  obtain ⟨b, hb, hbl⟩ := e
  have hlt : j < T.size := by
    rcases Nat.lt_or_ge j T.data.size with h' | h'
    · exact h'
    · rw [Array.getElem?_eq_none h'] at hb
      cases hb
  have hg : T[j] = b := by
    have h2 := Array.getElem?_eq_getElem (xs := T.data) (i := j) hlt
    rw [hb] at h2
    exact (Option.some.inj h2).symm
  have hr : (Instr.index 9 (.string T) (.int .u8 (j : Int))).run Tryz.prog w = .ok (.int .u8 ((bl j : Nat) : Int)) w := by
    rw [run_index_string w _ _ _ _ Tryz.underlying9, dif_pos ⟨by omega, by omega⟩]
    simp [hg, hbl]
  have hc : a.eval (.const (.string T)) = .string T := rfl
  unfold Oper.wp execOp
  simp only [ho, hc, hx, hr, Sem.run_bind, Result.andThen_ok, Sem.run_pure]
  exact hK _ _ h
theorem bl_intM (Y : Int) (k : Nat) (c : Int) (hc : c = ((2 ^ k : Nat) : Int)) (h : c ≤ Y) : bl Y.toNat = k + bl (Y / c).toNat := by
  subst hc
  obtain ⟨y, rfl⟩ := Int.eq_ofNat_of_zero_le (Int.le_trans (Int.natCast_nonneg _) h)
  rw [Int.toNat_natCast, ← Int.natCast_ediv, Int.toNat_natCast]
  exact bl_shift y k (by omega)
theorem len_sumM (k : Nat) (hk : k ≤ 64) (Y Z : Int) (h1 : Y < 18446744073709551616) (h : bl Z.toNat = k + bl Y.toNat) : wrap64 ((k : Int) + wrap64 ((bl Y.toNat : Nat) : Int)) = ((bl Z.toNat : Nat) : Int) := by
  have hb : bl Y.toNat ≤ 64 := bl_le_of _ 64 (by omega)
  rw [h]
  unfold wrap64
  omega
theorem len64_intM (X : Int) (h0 : 0 ≤ X) (h1 : X < 18446744073709551616) (w : World) : Calls Tryz.prog 166 #[.int .u64 X] w fun e w' => e = .returned (.int .i64 ((bl X.toNat : Nat) : Int)) ∧ w' = w := by
  go_enter Tryz.func166, Tryz.ntmps166
  generalize hT0 : ByteArray.mk _ = T
  have hT : Hid (∀ k : Fin 256, T.data[k.val]?.map (·.toNat) = some (bl k.val)) := by
    subst hT0
    show ∀ k : Fin 256, _
    decide +kernel
  clear hT0
  go_wp2_with (refine wpList_len8M rfl _ _ rfl _ rfl (Int.toNat _) (Int.toNat_of_nonneg (by omega)).symm (by omega) hT.out ?_)
  all_goals go_ret
  all_goals refine ⟨ret_int ?_, rfl⟩
  · exact len_sumM 56 (by omega) (X / 4294967296 / 65536 / 256) X (by omega) (by rw [bl_intM X 32 4294967296 (by decide) (by omega), bl_intM _ 16 65536 (by decide) (by omega), bl_intM _ 8 256 (by decide) (by omega)]; omega)
  · exact len_sumM 48 (by omega) (X / 4294967296 / 65536) X (by omega) (by rw [bl_intM X 32 4294967296 (by decide) (by omega), bl_intM _ 16 65536 (by decide) (by omega)]; omega)
  · exact len_sumM 40 (by omega) (X / 4294967296 / 256) X (by omega) (by rw [bl_intM X 32 4294967296 (by decide) (by omega), bl_intM _ 8 256 (by decide) (by omega)]; omega)
  · exact len_sumM 32 (by omega) (X / 4294967296) X (by omega) (by rw [bl_intM X 32 4294967296 (by decide) (by omega)])
  · exact len_sumM 24 (by omega) (X / 65536 / 256) X (by omega) (by rw [bl_intM X 16 65536 (by decide) (by omega), bl_intM _ 8 256 (by decide) (by omega)]; omega)
  · exact len_sumM 16 (by omega) (X / 65536) X (by omega) (by rw [bl_intM X 16 65536 (by decide) (by omega)])
  · exact len_sumM 8 (by omega) (X / 256) X (by omega) (by rw [bl_intM X 8 256 (by decide) (by omega)])
  · have := len_sumM 0 (by omega) X X h1 (by omega)
    simpa using this
theorem lenM_any (x : Nat) (h1 : x < 18446744073709551616) (w : World) : Calls Tryz.prog 117 #[.int .u64 (x : Int)] w fun e w' => e = .returned (.int .i64 ((bl x : Nat) : Int)) ∧ w' = w := by
  have HL := hide fun W => len64_intM (x : Int) (by omega) (by omega) W
  rw [Int.toNat_natCast] at HL
  clear h1
  go_enter Tryz.func117, Tryz.ntmps117
  go_wp2_with (go_at_call 166; refine (HL.out _).mono ?_; rintro e w3 ⟨rfl, hw3⟩; subst w3)
  go_ret
  exact ⟨rfl, rfl⟩
/-- How many levels there are above n ids. -/
def dp (n : Nat) : Nat := if n < 2 then 0 else bl (n - 1)
theorem dp_step (n : Nat) (h : 2 ≤ n) : dp n = dp ((n + 1) / 2) + 1 := by
  unfold dp
  rw [if_neg (by omega)]
  by_cases h2 : n = 2
  · subst h2
    decide
  · rw [if_neg (by omega), show (n + 1) / 2 - 1 = (n - 1) / 2 by omega]
    have := bl_shift (n - 1) 1 (by omega)
    rw [this, Nat.pow_one]
    omega
theorem dp_low (n : Nat) (h : n < 2) : dp n = 0 := by unfold dp; rw [if_pos h]
theorem dp_le (n : Nat) (h : n < 4294967296) : dp n ≤ 32 := by
  unfold dp
  split
  · omega
  · exact bl_le_of _ 32 (by omega)
end
end Go.Proofs.YthhojpplbhnnfaaGreatDoor
