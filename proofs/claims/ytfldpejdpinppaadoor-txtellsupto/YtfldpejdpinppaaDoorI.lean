/- The contract of Hasher.Write. -/
import Derived.Test.YtfldpejdpinppaaDoorH
namespace Go.Proofs.YtfldpejdpinppaaDoor
open Go.RowKit
open Go.Deep
/-- w' is w but for block b and new blocks. -/
structure Rfr (b : Nat) (w w' : World) : Prop where
  os : w'.os = w.os
  tape : w'.tape = w.tape
  output : w'.output = w.output
  size : w.heap.size ≤ w'.heap.size
  block : ∀ k, k < w.heap.size → k ≠ b → w'.heap[k]? = w.heap[k]?
theorem Rfr.refl (b : Nat) (w : World) : Rfr b w w := ⟨rfl, rfl, rfl, Nat.le_refl _, fun _ _ _ => rfl⟩
theorem Rfr.trans {b : Nat} {w w1 w2 : World} (h : Rfr b w w1) (k : Rfr b w1 w2) : Rfr b w w2 :=
  ⟨k.os.trans h.os, k.tape.trans h.tape, k.output.trans h.output, Nat.le_trans h.size k.size, fun i hi hb => (k.block i (Nat.lt_of_lt_of_le hi h.size) hb).trans (h.block i hi hb)⟩
theorem Rfr.drew (b : Nat) (w : World) : Rfr b w w.drew := ⟨rfl, rfl, rfl, Nat.le_refl _, fun _ _ _ => rfl⟩
theorem Rfr.drewN (b : Nat) (w : World) (n : Nat) : Rfr b w (w.drewN n) := ⟨rfl, rfl, rfl, Nat.le_refl _, fun _ _ _ => rfl⟩
theorem Rfr.below {b : Nat} {w w' : World} (h : Below w.heap.size w w') : Rfr b w w' := ⟨h.os, h.tape, h.output, h.size, fun k hk _ => h.block k hk⟩
theorem Rfr.setCell (b : Nat) (w : World) (i : Nat) (v : Value) : Rfr b w (w.setCell ⟨b, i, none⟩ v) :=
  ⟨rfl, rfl, rfl, by simp [World.setCell], fun k _ hk => Below.heap_setCell _ _ _ _ hk⟩
theorem Rfr.setCells (b : Nat) : ∀ (vs : List Value) (o : Nat) (w : World), Rfr b w (w.setCells b o vs)
  | [], _, w => Rfr.refl b w
  | v :: r, o, w => (Rfr.setCell b w o v).trans (Rfr.setCells b r (o + 1) _)
theorem Rfr.to_below {b B : Nat} {w w' : World} (h : Rfr b w w') (hb : B ≤ b) (hw : B ≤ w.heap.size) : Below B w w' :=
  ⟨h.os, h.tape, h.output, h.size, fun k hk => h.block k (by omega) (by omega)⟩
theorem Kg.rfr {w w' : World} {b : Nat} (h : Kg w) (hb : b ≠ 0) (r : Rfr b w w') : Kg w' := fun j hj =>
  (World.cell?_of_block (w := w) (a := ⟨0, j, none⟩) (r.block 0 h.lt (by omega))).trans (h j hj)
/-- A hasher at block b to which the text t was written. -/
def Hat (w : World) (b : Nat) (t : List UInt8) : Prop := ∃ tl, tl.length = 64 ∧ tl.take (t.length % 64) = rest t ∧ Hst w b (stN t (t.length / 64)) tl t.length
theorem Hat.lt {w : World} {b : Nat} {t : List UInt8} (h : Hat w b t) : b < w.heap.size := by
  obtain ⟨_, _, _, h⟩ := h
  exact h.lt
theorem Hat.of_block {w w' : World} {b : Nat} {t : List UInt8} (h : Hat w b t) (e : w'.heap[b]? = w.heap[b]?) : Hat w' b t := by
  obtain ⟨tl, h1, h2, h⟩ := h
  exact ⟨tl, h1, h2, h.of_block e⟩
theorem Hat.below {w w' : World} {b : Nat} {t : List UInt8} (h : Hat w b t) (hb : Below w.heap.size w w') : Hat w' b t := h.of_block (hb.block b h.lt)
theorem hat_more {w : World} {b n : Nat} {T tl x : List UInt8} {st : St} (hn : T.length = n) (hl : tl.length = 64) (hst : stN T (n / 64) = st) (ht : tl.take (n % 64) = rest T) (hA : n % 64 + x.length < 64)
    (h : Hst w b st (tl2 tl (n % 64) x) (n + x.length)) : Hat w b (T ++ x) := by
  subst hn
  refine ⟨_, tl2_len tl _ x hl (by omega), more_rest T x tl hA hl ht, ?_⟩
  rw [more_st T x hA, hst, List.length_append]
  exact h
theorem hat_full {w : World} {b n : Nat} {T tl x : List UInt8} {st : St} (hn : T.length = n) (hl : tl.length = 64) (hst : stN T (n / 64) = st) (ht : tl.take (n % 64) = rest T) (hA : n % 64 + x.length = 64)
    (h : Hst w b (step st (tl2 tl (n % 64) x)) (tl2 tl (n % 64) x) (n + x.length)) : Hat w b (T ++ x) := by
  subst hn
  have h0 := full_mod T x hA
  refine ⟨_, tl2_len tl (T.length % 64) x hl (by omega), ?_, ?_⟩
  · rw [h0, rest_nil _ h0]
    rfl
  · rw [full_st T x tl hA hl ht, hst, List.length_append]
    exact h
theorem ext_list (x : ByteArray) (k : Nat) : (x.extract k x.size).data.toList = x.data.toList.drop k := by
  rw [ByteArray.data_extract, Array.toList_extract]
  simp [List.extract]
  rw [List.take_of_length_le]
  simp
def lenS : Value → Nat
  | .string s => s.size
  | _ => 0
attribute [local go_sem ↓] ld31_eq ld35_eq sv31_eq
section
set_option maxRecDepth 10000
set_option maxHeartbeats 1000000
theorem write_any (b : Nat) (t : List UInt8) (q : ByteArray) (w : World) (hK : Kg w) (hb : b ≠ 0) (hs : t.length + q.size < 2305843009213693952) (h : Hat w b t) :
    Calls Tryd.prog 54 #[.pointer (some ⟨b, 0, none⟩), .string q] w fun e w' => e = .returned (.tuple #[]) ∧ Hat w' b (t ++ q.data.toList) ∧ Rfr b w w' := by
  have HK := hide hK
  have H0 := hide h
  clear hK h
  go_enter Tryd.func54, Tryd.ntmps54
  go_wp2
  go_loopw [1, 4] (fun sv _ wr => ∃ (p : List UInt8) (x : ByteArray), Hid (q.data.toList = p ++ x.data.toList) ∧ sv = .string x ∧ Hid (Hat wr b (t ++ p)) ∧ Hid (Rfr b w wr)) (fun sv _ _ => lenS sv)
  case atStart => exact ⟨[], q, rfl, rfl, by simpa [Hid] using H0.out, Rfr.refl _ _⟩
  case round =>
    obtain ⟨p, x, hq, rfl, HH, RR⟩ := hrel
    have hsz : (t ++ p).length + x.size < 2305843009213693952 := by
      have := congrArg List.length hq.out
      simp at this
      simp
      omega
    by_cases hx : 0 < x.size
    · generalize hT : t ++ p = T at *
      obtain ⟨tl, hl, ht, hh⟩ := HH.out
      generalize hn : T.length = n at *
      generalize hst : stN T (n / 64) = st at *
      have c72 := hh.long
      have b1 : (0 : Int) ≤ (n : Int) % 64 := by omega
      have b2 : (n : Int) % 64 ≤ 64 := by omega
      have e1 : ((n : Int) % 64).toNat = n % 64 := by omega
      have hcp := Hst.copy (w := wr.drew) hh (n % 64) (by omega) x (64 - n % 64)
      have hxl : x.data.toList.length = x.size := by simp
      by_cases hA : n % 64 + x.size < 64
      · rw [List.take_of_length_le (by omega), Nat.min_eq_left (by omega)] at hcp
        have HT : Hid (T.length % 64 + x.data.toList.length < 64) := by rw [hn, hxl]; exact hA
        have h2 := Hst.copied (w := wr.drew) hl hh (n % 64) x.data.toList (by omega)
        have R2 := hide ((Rfr.drew b wr).trans (Rfr.setCells b (cellsL x.data.toList) (8 + n % 64) wr.drew))
        generalize wr.drew.setCells b (8 + n % 64) (cellsL x.data.toList) = W1 at *
        have d72 := h2.long
        have g72 := h2.frozen 72
        have H3 := hide (h2.setLong (n + x.size))
        have t1 : (((n : Int) + x.size) % 64 == 0) = false := by simp; omega
        have HHt := hide ht
        have HHh := hide hst
        clear ht hst hh h2
        go_wp2
        go_region
        go_wp2
        refine ⟨⟨p ++ x.data.toList, ByteArray.empty, ?_, rfl, ?_, ?_⟩, ?_⟩
        · show q.data.toList = p ++ x.data.toList ++ []
          rw [List.append_nil]; exact hq.out
        · show Hat _ b (t ++ (p ++ x.data.toList))
          rw [← List.append_assoc, hT]
          refine hat_more hn hl HHh.out HHt.out (by omega) ?_
          rw [hxl]
          exact H3.out
        · exact hide (RR.out.trans (R2.out.trans (Rfr.setCell b W1 72 _)))
        · exact hx
      · have hk : (x.data.toList.take (64 - n % 64)).length = 64 - n % 64 := by rw [List.length_take]; omega
        rw [Nat.min_eq_right (by omega)] at hcp
        have h2 := Hst.copied (w := wr.drew) hl hh (n % 64) (x.data.toList.take (64 - n % 64)) (by omega)
        have hl2 := tl2_len tl (n % 64) (x.data.toList.take (64 - n % 64)) hl (by omega)
        have R2 := hide ((Rfr.drew b wr).trans (Rfr.setCells b (cellsL (x.data.toList.take (64 - n % 64))) (8 + n % 64) wr.drew))
        generalize hx1 : x.data.toList.take (64 - n % 64) = x1 at *
        generalize wr.drew.setCells b (8 + n % 64) (cellsL x1) = W1 at *
        generalize htl2 : tl2 tl (n % 64) x1 = tl3 at *
        have d72 := h2.long
        have g72 := h2.frozen 72
        have H3 := h2.setLong (n + (64 - n % 64))
        have R3 := hide (R2.out.trans (Rfr.setCell b W1 72 (.int .u64 ((n + (64 - n % 64) : Nat) : Int))))
        have K3 := hide (HK.out.rfr hb (RR.out.trans R3.out))
        have t1 : (((n : Int) + ((64 - n % 64 : Nat) : Int)) % 64 == 0) = true := by simp; omega
        have ec : ((n + (64 - n % 64) : Nat) : Int) = (n : Int) + ((64 - n % 64 : Nat) : Int) := by omega
        rw [ec] at H3 R3 K3
        have wk : IntKind.u64.wrap ((64 - n % 64 : Nat) : Int) = ((64 - n % 64 : Nat) : Int) := wrapu _ (by omega) (by omega)
        have HHt := hide ht
        have HHh := hide hst
        have HX := hide hx1
        have HTL := hide htl2
        have HS := hide fun W hW => step_any st tl3 hl2 W hW
        have H3' := hide H3
        clear ht hst hh h2 hx1 htl2 H3 R2
        go_wp2
        go_region
        generalize hk0 : 64 - n % 64 = k at *
        have k1 : k ≤ x.size := by omega
        have k2 : 0 < k := by omega
        have Hk := hide hk0
        have k64 : k ≤ 64 := by omega
        clear hk0 ec
        generalize hW2 : W1.setCell ⟨b, 72, none⟩ (.int .u64 ((n : Int) + (k : Int))) = W2 at *
        have HW2 := hide hW2
        have l1 := Hst.ld31 (w := W2.drew) H3'.out
        have l2 := Hst.ld35 (w := W2.drew) hl2 H3'.out
        have e72 : W2.cell? ⟨b, 72, none⟩ = some (.int .u64 ((n : Int) + (k : Int))) := by
          have := H3'.out.long
          rw [this]
          congr 2
        have K4 : Hid (Kg W2.drew) := K3.out
        go_wp2
        go_region_with (go_at_call 62; refine (HS.out _ K4.out).mono ?_; rintro e w3 ⟨rfl, b3⟩; have H4 := hide (Hst.below (w := W2.drew) H3'.out b3); have hsv := H4.out.sv31 (step st tl3); have R4 := hide (Rfr.below (b := b) b3); clear b3)
        all_goals go_wp2
        all_goals
          refine ⟨⟨p ++ x1, x.extract k x.size, ?_, rfl, ?_, ?_⟩, ?_⟩
          · show q.data.toList = p ++ x1 ++ (x.extract k x.size).data.toList
            rw [ext_list, ← HX.out, List.append_assoc, List.take_append_drop]; exact hq.out
          · show Hat _ b (t ++ (p ++ x1))
            rw [← List.append_assoc, hT]
            refine hat_full hn hl HHh.out HHt.out (by have := Hk.out; omega) ?_
            rw [HTL.out, hk]
            exact H4.out.set31 (step st tl3)
          · exact hide (RR.out.trans (R3.out.trans ((Rfr.drew b W2).trans (R4.out.trans (Rfr.setCells b _ _ _)))))
          · simp [lenS]
            omega
    · have hx0 : x.size = 0 := by omega
      have hxe : x.data.toList = [] := List.eq_nil_of_length_eq_zero (by simpa using hx0)
      go_wp2
      go_end0
      refine ⟨rfl, ?_, RR.out⟩
      have := hq.out
      rw [hxe, List.append_nil] at this
      rw [this]
      exact HH.out
end
end Go.Proofs.YtfldpejdpinppaaDoor
