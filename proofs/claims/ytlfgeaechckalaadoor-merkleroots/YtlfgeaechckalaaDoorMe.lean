/- The contract of above. -/
import Derived.Test.YtlfgeaechckalaaDoorMd
namespace Go.Proofs.YtlfgeaechckalaaDoor
open Go.RowKit
open Go.Deep
def ldh (x : Value) : Sem Value := Instr.loadAt 25 x
theorem ldh_eq (x : Value) : Instr.loadAt 25 x = ldh x := rfl
def bsh (x : Value) : Sem Value := Instr.buildSlice 22 1 #[(0, x)]
theorem bsh_eq (x : Value) : Instr.buildSlice 22 1 #[(0, x)] = bsh x := rfl
theorem Onto.of_below {W W' : World} (h : Below W.heap.size W W') (v : Value) : Onto W W' v v := ⟨⟨h.os, h.tape, h.output, h.size, fun k hk _ => h.block k hk⟩, .inl rfl⟩
theorem OH.drew {e : TypeId} {w : World} {v : Value} {L : List (List UInt8)} (h : OH e w v L) : OH e w.drew v L := h.of_block fun _ _ => rfl
/-- A list of the program's own, in blocks that a call made. -/
structure Oj (e : TypeId) (w W : World) (v : Value) (L : List (List UInt8)) : Prop where
  own : OH e W v L
  bel : Below w.heap.size w W
  far : ∀ g, v.ownBlock = some g → w.heap.size ≤ g
section
variable {e : TypeId} {w W W' : World} {v v' : Value} {L L' : List (List UInt8)}
theorem Oj.next (j : Oj e w W v L) (h : Below W.heap.size W W') : Oj e w W' v L := ⟨j.own.below h, below_next j.bel h, j.far⟩
theorem Oj.drew (j : Oj e w W v L) : Oj e w W.drew v L := j.next (Below.refl _ _).drew
theorem Oj.onto (j : Oj e w W v L) (h : Onto W W' v v') (o : OH e W' v' L') : Oj e w W' v' L' := ⟨o, j.bel.trans (h.below j.bel.size j.far), h.far j.bel.size j.far⟩
/-- Worlds in which the list lies, as a class. -/
theorem Oj.cls (j : Oj e w W v L) : ∃ (I : Type) (_ : Nonempty I) (F : I → World) (i0 : I), W.drew = F i0 ∧ Hid (∀ i, Oj e w (F i) v L) ∧ Hid (∀ i W', Below (F i).heap.size (F i) W' → ∃ j, W' = F j) :=
  ⟨{W : World // Oj e w W v L}, ⟨⟨_, j⟩⟩, Subtype.val, ⟨W.drew, j.drew⟩, rfl, fun i => i.2, fun i W' b => ⟨⟨W', i.2.next b⟩, rfl⟩⟩
end
attribute [-go_sem] Instr.buildSlice
attribute [local go_sem ↓] ldh_eq
attribute [local go_sem] bsh_eq
section
set_option maxRecDepth 10000
set_option maxHeartbeats 4000000
theorem above_any (v : Value) (L : List (List UInt8)) (w : World) (hL : LH w v L) (hn : L.length < 4294967296) (hK : Kg w) : Calls Tryd.prog 31 #[v] w fun e w' => ∃ v', e = .returned v' ∧ Oj 25 w w' v' (nxt L) := by
  obtain ⟨ao, cap, rfl⟩ := hL.form
  obtain ⟨i0, z, hi, hz, hzs, hs, hby⟩ := EH.parts
  have HL := hide hL
  have KW : Hid (∀ W, Below w.heap.size w W → Kg W) := fun W h => hK.next h
  have HW := hide fun W => width_any L.length 1 (by omega) (by omega) W
  have HN := hide hn
  have H3 := hide hL.1
  have hw1 : wdt L.length 1 = (L.length + 1) / 2 := rfl
  rw [hw1] at HW
  clear hL hK hw1
  go_enter Tryd.func31, Tryd.ntmps31
  go_wp2_with (first | (go_at_call 44; refine (HW.out _).mono ?_; rintro e w1 ⟨rfl, hww⟩; subst w1) | (at_make; refine wpList_make_own _ rfl _ _ 22 rfl 0 25 i0 z 32 Tryd.underlying22 hi hz hs _ _ _ ((L.length + 1) / 2) rfl rfl (by omega) (by rw [hby]; omega) (by unfold maxLen; omega) (Nat.zero_le _) ?_; intro w2 hown1 hgrow1))
  have J0 : Hid (Oj 25 w w2 (.slice (some ⟨w.heap.size, 0, none⟩) 0 ((L.length + 1) / 2)) (nxK L 0)) := ⟨⟨H32.nil, hown1⟩, (Below.refl _ _).grown hgrow1 (Nat.le_refl _) (by intro k hk; cases hk), fun g hg => by cases hg; exact Nat.le_refl _⟩
  clear hown1 hgrow1 hi hz hzs hs hby HW
  go_loopw [3, 4] (fun v d wr => ∃ k : Nat, k ≤ (L.length + 1) / 2 ∧ d = .int .i64 ((2 * k : Nat) : Int) ∧ Hid (Oj 25 w wr v (nxK L k))) (fun _ d _ => (L.length + 2 - intOf d).toNat)
  case atStart => exact ⟨0, Nat.zero_le _, rfl, J0⟩
  case round =>
    clear J0
    obtain ⟨k, hk, rfl, J⟩ := hrel
    have hn := HN.out
    by_cases hlt : 2 * k < L.length
    · obtain ⟨g, off, rfl⟩ := HL.out.base (by omega)
      have h1 : ((2 * k : Nat) : Int) < (L.length : Int) := by omega
      have hm := mt_lt L.length (2 * k) hlt
      have l1 := hide (H3.out.at (2 * k) (by omega))
      have l2 := hide (H3.out.at _ hm)
      have HM := hide fun W => mate_any (2 * k) L.length (by omega) W
      have LD : Hid (∀ W, Below w.heap.size w W → Below w.heap.size w W ∧ (ldh (.pointer (some ⟨g, off + (2 * k) * 32, none⟩))).run Tryd.prog W = .ok (.agg (hc (ia L (2 * k)))) W ∧ (ldh (.pointer (some ⟨g, off + (mt L.length (2 * k)) * 32, none⟩))).run Tryd.prog W = .ok (.agg (hc (ia L (mt L.length (2 * k))))) W) := fun W h => ⟨h, EH.load l1.out ((HL.out.below h).range _ hlt), EH.load l2.out ((HL.out.below h).range _ hm)⟩
      have HP := hide fun W hW => pair_any _ _ l1.out l2.out W hW
      have hpl := pr_len (ia L (2 * k)) (ia L (mt L.length (2 * k)))
      have SN := hide (nxK_snoc L k)
      rw [show nx L k = pr (ia L (2 * k)) (ia L (mt L.length (2 * k))) from rfl] at SN
      have e2 : IntKind.i64.wrap (((2 * k : Nat) : Int) + 2) = ((2 * (k + 1) : Nat) : Int) := by rw [wrapI _ (by omega) (by omega)]; omega
      have h2 : (0 : Int) ≤ ((2 * k : Nat) : Int) := by omega
      have h3 : ((mt L.length (2 * k) : Nat) : Int) < (L.length : Int) := by omega
      have h4 : (0 : Int) ≤ ((mt L.length (2 * k) : Nat) : Int) := by omega
      have KK := hide (And.intro (show k + 1 ≤ (L.length + 1) / 2 by omega) (show ((L.length : Int) + 2 - ((2 * (k + 1) : Nat) : Int)).toNat < ((L.length : Int) + 2 - ((2 * k : Nat) : Int)).toNat by omega))
      have SZ := hide (show (nxK L k).length + 1 ≤ 4398046511104 by rw [nxK_len]; omega)
      generalize hia : ia L (2 * k) = A at *
      generalize hib : ia L (mt L.length (2 * k)) = B at *
      generalize hpr : pr A B = P at *
      have PL := hide hpl
      have bs : ∀ W, (bsh (.agg (hc P))).run Tryd.prog W = .ok (.slice (some ⟨W.heap.size, 0, none⟩) 1 1) (W.alloc (.cells (hc P) 25)) := fun W => EH.bs1 W P hpl
      clear hia hib hpr hpl hk hn
      generalize hp : 2 * (k + 1) = p3 at *
      have HP3 := hide hp
      clear hp hm hlt
      generalize mt L.length (2 * k) = q at *
      generalize 2 * k = p1 at *
      go_upto_region 5 with fail
      have ld1 := (LD.out _ J.out.bel.drew).2.1
      have ld2 := (LD.out _ J.out.bel.drew).2.2
      go_region_law ((first | (go_simp; go_at_call 37; refine (HM.out _).mono ?_; rintro e w1 ⟨rfl, hww⟩; subst w1) | (go_simp; go_at_call 18; refine (HP.out _ (KW.out _ J.out.bel.drew)).mono ?_; rintro e w1 ⟨rfl, be⟩; have J1 := hide ((J.out.next (Below.refl _ _).drew).next be); have J2 := hide (J1.out.next ((Below.refl _ _).alloc (Nat.le_refl _) (.cells (hc P) 25))); clear be) | (refine ET.step EH (by rfl) _ _ (by rfl) _ _ (by rfl) J2.out.own ⟨_, 0, none⟩ P PL.out (by rfl) (one_newH _ _) SZ.out ?_; intro v' w3 hown' hon3; have J3 := hide (J2.out.onto hon3 hown'))))
      all_goals
        go_wp2
        exact ⟨⟨k + 1, KK.out.1, by rw [HP3.out], by rw [SN.out]; exact J3⟩, by simpa [intOf] using KK.out.2⟩
    · have h1 : ¬ ((2 * k : Nat) : Int) < (L.length : Int) := by omega
      have hke : nxt L = nxK L k := by
        unfold nxt
        rw [show (L.length + 1) / 2 = k by omega]
      have HE := hide hke
      clear hke hlt hk hn
      generalize 2 * k = p1 at *
      go_wp2
      go_ret
      exact ⟨u3, rfl, by rw [HE.out]; exact J.out⟩
end
end Go.Proofs.YtlfgeaechckalaaDoor
