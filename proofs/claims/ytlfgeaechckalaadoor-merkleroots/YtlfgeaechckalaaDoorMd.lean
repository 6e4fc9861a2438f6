/- The contract of twins. -/
import Derived.Test.YtlfgeaechckalaaDoorMc
namespace Go.Proofs.YtlfgeaechckalaaDoor
open Go.RowKit
open Go.Deep
theorem LH.base {w : World} {ao : Option Addr} {n cap : Nat} {L : List (List UInt8)} (h : LH w (.slice ao n cap) L) (h0 : 0 < L.length) : ∃ g off, ao = some ⟨g, off, none⟩ := by
  obtain ⟨_, ao', cap', e, _, hat⟩ := h
  injection e with e1 e2 e3
  subst e1
  obtain ⟨g, off, e, _⟩ := hat 0 h0
  exact ⟨g, off, e⟩
theorem LH.range {w : World} {g off n cap : Nat} {L : List (List UInt8)} (h : LH w (.slice (some ⟨g, off, none⟩) n cap) L) (i : Nat) (hi : i < L.length) : w.rangeAt g (off + i * 32) (cellsL (ia L i)) := by
  obtain ⟨_, ao', cap', e, _, hat⟩ := h
  injection e with e1 e2 e3
  subst e1
  obtain ⟨g', off', e, _, hr⟩ := hat i hi
  injection e with e
  injection e with e1 e2
  subst e1 e2
  exact hr
theorem LH.len {w : World} {ao : Option Addr} {n cap : Nat} {L : List (List UInt8)} (h : LH w (.slice ao n cap) L) : n = L.length := by
  obtain ⟨_, ao', cap', e, _, hat⟩ := h
  injection e
theorem LH.form {w : World} {v : Value} {L : List (List UInt8)} (h : LH w v L) : ∃ ao cap, v = .slice ao L.length cap := by
  obtain ⟨_, ao', cap', e, _, hat⟩ := h
  exact ⟨_, _, e⟩
/-- The load of an id out of a list of ids, as an operation of a quiet walk. -/
theorem ET.qLoad {t e : TypeId} (E : ET t e) {C : World → Prop} {a : Act} {o : Oper} {K : Act → Prop} (x : Operand) (ho : o.op = .load e x) (g off : Nat) (hx : a.eval x = .pointer (some ⟨g, off, none⟩)) (l : List UInt8) (hl : l.length = 32) (hr : ∀ W, C W → W.rangeAt g off (cellsL l))
    (hk : K (a.put o.dst (.agg (hc l)))) : o.quiet Tryd.prog a C K := by
  refine ⟨.agg (hc l), fun W hC => ?_, hk⟩
  unfold Oper.quietAt execOp
  simp only [ho, hx, Sem.run_bind, E.load hl (hr W hC), Result.andThen_ok, Sem.run_pure]
  exact ⟨rfl, rfl⟩
theorem eqH {t e : TypeId} (E : ET t e) (a b : List UInt8) (ha : a.length = 32) (hb : b.length = 32) (W : World) : (Op.equalIn 10000 e (.agg (hc a)) (.agg (hc b))).run Tryd.prog W = .ok (a == b) W :=
  run_equalIn_bytes (P := Tryd.prog) W 9998 e 5 32 E.ar Tryd.underlying5 size5 a b ha hb
theorem eqg24 : Tryd.prog.eqGuardType Tryd.prog.depth 24 = false := by kernel_rfl
/-- Worlds in which ids lie, as a class. -/
theorem LH.cls {w W : World} {v : Value} {L : List (List UInt8)} (h : LH W v L) (hb : Below w.heap.size w W) : ∃ (I : Type) (_ : Nonempty I) (F : I → World) (i0 : I), W.drew = F i0 ∧ Hid (∀ i, LH (F i) v L ∧ Below w.heap.size w (F i)) ∧ Hid (∀ i W', Below (F i).heap.size (F i) W' → ∃ j, W' = F j) :=
  ⟨{W : World // LH W v L ∧ Below w.heap.size w W}, ⟨⟨_, h, hb⟩⟩, Subtype.val, ⟨W.drew, h.drew, hb.drew⟩, rfl, fun i => i.2, fun i W' b => ⟨⟨W', i.2.1.below b, below_next i.2.2 b⟩, rfl⟩⟩
section
set_option maxRecDepth 10000
set_option maxHeartbeats 2000000
theorem twins_any (v : Value) (L : List (List UInt8)) (w : World) (hL : LH w v L) (hn : L.length < 1152921504606846976) : Calls Tryd.prog 30 #[v] w fun e w' => e = .returned (.bool (twb L)) ∧ Below w.heap.size w w' := by
  obtain ⟨ao, cap, rfl⟩ := hL.form
  have J0 : Hid (LH w (.slice ao L.length cap) L ∧ Below w.heap.size w w) := ⟨hL, Below.refl _ _⟩
  have HN := hide hn
  have H32 := hide hL.1
  clear hL hn
  go_enter Tryd.func30, Tryd.ntmps30
  go_wp2
  go_loopw [3] (fun i wr => ∃ k : Nat, k ≤ L.length / 2 ∧ i = .int .i64 ((2 * k + 1 : Nat) : Int) ∧ Hid (LH wr (.slice ao L.length cap) L ∧ Below w.heap.size w wr) ∧ Hid (twK L k = false)) (fun i _ => (L.length + 2 - intOf i).toNat)
  case atStart => exact ⟨0, Nat.zero_le _, rfl, J0, rfl⟩
  case round =>
    clear J0
    obtain ⟨k, hk, rfl, J, T⟩ := hrel
    have hn := HN.out
    by_cases hlt : 2 * k + 1 < L.length
    · obtain ⟨g, off, rfl⟩ := J.out.1.base (by omega)
      have h1 : ((2 * k + 1 : Nat) : Int) < (L.length : Int) := by omega
      have l1 := hide (H32.out.at (2 * k) (by omega))
      have l2 := hide (H32.out.at (2 * k + 1) hlt)
      have EQ := hide fun W => eqH EH _ _ l1.out l2.out W
      have R1 : Hid (∀ W, LH W (.slice (some ⟨g, off, none⟩) L.length cap) L → W.rangeAt g (off + (2 * k) * 32) (cellsL (ia L (2 * k)))) := fun W h => h.range (2 * k) (by omega)
      have R2 : Hid (∀ W, LH W (.slice (some ⟨g, off, none⟩) L.length cap) L → W.rangeAt g (off + (2 * k + 1) * 32) (cellsL (ia L (2 * k + 1)))) := fun W h => h.range (2 * k + 1) hlt
      have TS := hide (twK_snoc L k)
      have e1 : IntKind.i64.wrap (((2 * k + 1 : Nat) : Int) - 1) = ((2 * k : Nat) : Int) := by rw [wrapI _ (by omega) (by omega)]; omega
      have e2 : IntKind.i64.wrap (((2 * k + 1 : Nat) : Int) + 2) = ((2 * (k + 1) + 1 : Nat) : Int) := by rw [wrapI _ (by omega) (by omega)]; omega
      have h2 : (0 : Int) ≤ ((2 * k : Nat) : Int) := by omega
      have h3 : ((2 * k : Nat) : Int) < (L.length : Int) := by omega
      have h4 : (0 : Int) ≤ ((2 * k + 1 : Nat) : Int) := by omega
      have KK := hide (And.intro (show k + 1 ≤ L.length / 2 by omega) (show ((L.length : Int) + 2 - ((2 * (k + 1) + 1 : Nat) : Int)).toNat < ((L.length : Int) + 2 - ((2 * k + 1 : Nat) : Int)).toNat by omega))
      have TB : Hid ((ia L (2 * k) == ia L (2 * k + 1)) = true → twb L = true) := fun h => by
        have hh : k + 1 ≤ L.length / 2 := KK.out.1
        unfold twb twK
        rw [List.any_eq_true]
        exact ⟨k, by simp; omega, h⟩
      generalize hia : ia L (2 * k) = A at *
      generalize hib : ia L (2 * k + 1) = B at *
      clear hia hib hlt hk hn
      generalize hp : 2 * (k + 1) + 1 = p3 at *
      have HP3 := hide hp
      generalize 2 * k + 1 = p2 at *
      generalize 2 * k = p1 at *
      clear hp
      go_upto_region 4 with fail
      obtain ⟨I, hne, F, i0, h0, hJ, hcl⟩ := J.out.1.cls J.out.2
      refine wp_region_class_lit (by kernel_rfl) (by kernel_rfl) i0 h0 ?_
      repeat (first | ((go_big_quiet_want; first | refine ET.qLoad EH _ (by rfl) g (off + p1 * 32) (by rfl) A l1.out (fun W hC => by obtain ⟨i, rfl⟩ := hC; exact R1.out _ (hJ.out i).1) ?_ | refine ET.qLoad EH _ (by rfl) g (off + p2 * 32) (by rfl) B l2.out (fun W hC => by obtain ⟨i, rfl⟩ := hC; exact R2.out _ (hJ.out i).1) ?_ | refine quiet_eql 25 _ _ _ (by rfl) (hc A) (hc B) (by rfl) (by rfl) eqg25 (A == B) EQ.out ?_); go_big_quiet_on; simp only [Act.put, List.setIfInBounds_toArray, List.set_cons_succ, List.set_cons_zero]) | go_big_quiet_step (fail))
      refine wpQuiet_nil ?_
      rintro _ ⟨iq, rfl⟩
      have J2 := hide (hJ.out iq)
      clear hJ hcl h0 J R1 R2 EQ
      generalize F iq = W2 at *
      generalize (A == B) = ab at *
      cases ab
      · go_wp2
        exact ⟨⟨k + 1, KK.out.1, by rw [HP3.out], J2, by rw [TS.out, T.out]; rfl⟩, by simpa [intOf, HP3.out] using KK.out.2⟩
      · have HT := hide (TB.out rfl)
        go_wp2
        go_ret
        exact ⟨by rw [HT.out]; rfl, J2.out.2⟩
    · have h1 : ¬ ((2 * k + 1 : Nat) : Int) < (L.length : Int) := by omega
      have hT : twb L = false := by
        unfold twb
        rw [show L.length / 2 = k by omega]
        exact T.out
      have HT := hide hT
      clear hlt hk hn hT
      generalize 2 * k + 1 = p2 at *
      go_wp2
      go_ret
      exact ⟨by rw [HT.out]; rfl, J.out.2⟩
end
end Go.Proofs.YtlfgeaechckalaaDoor
