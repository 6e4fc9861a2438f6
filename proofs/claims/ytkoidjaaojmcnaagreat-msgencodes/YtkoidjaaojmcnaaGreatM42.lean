/- Lists that are taken out of a payload: takeList, for any function that takes one element. -/
import Derived.Test.YtkoidjaaojmcnaaGreatM41
namespace Go.Proofs.YtkoidjaaojmcnaaGreat
open Go.RowKit
open Go.Deep
set_option linter.unusedVariables false
set_option linter.unusedSimpArgs false
/-- All blocks stay but those of K. -/
structure Rfk (K : Nat → Prop) (w w' : World) : Prop where
  os : w'.os = w.os
  tape : w'.tape = w.tape
  output : w'.output = w.output
  size : w.heap.size ≤ w'.heap.size
  block : ∀ k, k < w.heap.size → ¬ K k → w'.heap[k]? = w.heap[k]?
theorem Rfk.trans {K : Nat → Prop} {w w1 w2 : World} (h : Rfk K w w1) (k : Rfk K w1 w2) : Rfk K w w2 :=
  ⟨k.os.trans h.os, k.tape.trans h.tape, k.output.trans h.output, Nat.le_trans h.size k.size, fun i hi hb => (k.block i (Nat.lt_of_lt_of_le hi h.size) hb).trans (h.block i hi hb)⟩
theorem Rfk.below {K : Nat → Prop} {w w' : World} (h : Below w.heap.size w w') : Rfk K w w' := ⟨h.os, h.tape, h.output, h.size, fun k hk _ => h.block k hk⟩
theorem Rfk.of {K : Nat → Prop} {b : Nat} {w w' : World} (h : Rfr b w w') (hb : K b) : Rfk K w w' := ⟨h.os, h.tape, h.output, h.size, fun k hk hn => h.block k hk (fun e => hn (e ▸ hb))⟩
theorem Rfk.rfr {K : Nat → Prop} {b : Nat} {w w' : World} (h : Rfk K w w') (hb : ∀ k, k < w.heap.size → K k → k = b) : Rfr b w w' := ⟨h.os, h.tape, h.output, h.size, fun k hk hn => h.block k hk (fun e => hn (hb k hk e))⟩
theorem Gr.err {w : World} {b : Nat} {t : ByteArray} {R : List UInt8} (h : Gr w b t R) : Calls Tryz.prog 96 #[.pointer (some ⟨b, 0, none⟩)] w fun e w' => e = .returned (.int .i64 0) ∧ w' = w := by
  obtain ⟨n, _, _, h3⟩ := h
  exact rErr _ _ _ _ _ h3
theorem Gr.at {w w' : World} {b : Nat} {t : ByteArray} {R : List UInt8} (h : Gr w b t R) (hb : w'.heap[b]? = w.heap[b]?) : Gr w' b t R := by
  obtain ⟨n, h1, h2, h3⟩ := h
  exact ⟨n, h1, h2, hb.trans h3⟩
section
variable {α : Type} (E : Ek α)
/-- A slice of one element, whatever its value is. -/
theorem Ek.bs1v (w : World) (x : α) (v : Value) (hv : v.cells = (E.enc x).toArray) : (Instr.buildSlice E.t 1 #[(0, v)]).run Tryz.prog w = .ok (.slice (some ⟨w.heap.size, 0, none⟩) 1 1) (w.alloc (.cells (E.enc x).toArray E.e)) := by
  obtain ⟨i, z, hi, hz, hzs, hs, _⟩ := E.parts
  have hk := E.kpos
  have hcs : v.cells.size = E.k := by
    rw [hv, List.size_toArray, E.len]
  obtain ⟨r, hr, hrs, hk⟩ := Great.fill_dense (s := E.k) E.kpos [v] 0 ((Array.range (1 * E.k)).map (z.cells[· % z.cells.size]!)) (fun u hu => by simp at hu; rw [hu]; exact hcs) (by simp)
  have e1 : r = (E.enc x).toArray := by
    apply Array.ext
    · rw [hrs, show (E.enc x).toArray.size = E.k by rw [List.size_toArray, E.len]]; simp
    · intro k h1 h2
      have hk1 : k < E.k := by rw [List.size_toArray, E.len] at h2; exact h2
      have := hk k
      rw [if_pos ⟨by omega, by simp; omega⟩, Array.getElem?_eq_getElem h1, show k / E.k - 0 = 0 by rw [Nat.div_eq_of_lt hk1], Nat.mod_eq_of_lt hk1] at this
      simp only [List.getElem?_cons_zero, Option.bind_some] at this
      rw [hv, Array.getElem?_eq_getElem h2] at this
      exact Option.some.inj this
  rw [e1] at hr
  refine run_buildSlice (P := Tryz.prog) w E.t E.e 1 #[(0, v)] (E.enc x).toArray i z E.sl hi hz (by rw [hs]; have := E.k24; omega) (by rw [hs]; omega) ?_
  rw [hs]
  exact hr
end
section
variable {α : Type} {w : World} {ops : Array Oper} {rest : List Oper} {o : Oper} {a : Act} {Q : Exit → Act → World → Prop}
theorem Ek.wpBs1v (E : Ek α) (hgd : o.guard = none) (x : Operand) (ho : o.op = .buildSlice E.t 1 #[(0, x)]) (h : α) (v : Value) (hx : a.eval x = v) (hv : v.cells = (E.enc h).toArray)
    (hk : wpList Tryz.prog ops Q rest (a.put o.dst (.slice (some ⟨w.heap.size, 0, none⟩) 1 1)) (w.alloc (.cells (E.enc h).toArray E.e))) : wpList Tryz.prog ops Q (o :: rest) a w := by
  refine wpList_plain hgd fun K hK => ?_
  unfold Oper.wp execOp
  simp only [ho, List.map_toArray, List.map_cons, List.map_nil, hx, E.bs1v w h v hv, Sem.run_bind, Result.andThen_ok, Sem.run_pure]
  exact hK _ _ hk
theorem Ek.wpApp1 (E : Ek α) (hgd : o.guard = none) (x y : Operand)
    (ho : o.op = .call { callee := .builtin .append, args := #[x, y], argTypes := #[E.t, E.t] })
    (v : Value) (L : List α) (hx : a.eval x = v) (hown : OX E w v L)
    (ad : Addr) (h : α) (hy : a.eval y = .slice (some ad) 1 1) (hnews : ∀ j u, (flatE E [h])[j]? = some u → w.cell? (ad.add j) = some u) (hsm : (L.length + 1) * E.b ≤ 140737488355328) (h63 : L.length + 1 ≤ maxLen)
    (h : ∀ v' w', OX E w' v' (L ++ [h]) → Onto w w' v v' → wpList Tryz.prog ops Q rest (a.put o.dst v') w') :
    wpList Tryz.prog ops Q (o :: rest) a w := by
  refine wpList_plain hgd fun K hK => ?_
  obtain ⟨v', w', hr, h2, h3⟩ := E.app (ty := o.type) hown ad 1 1 [_] rfl hnews hsm h63
  unfold Oper.wp execOp
  simp only [ho, resolve, invoke, builtin, Sem.run_bind, Sem.run_pure, Result.andThen_ok, List.map_toArray, List.map_cons, List.map_nil, hx, hy, hr]
  exact hK _ _ (h v' w' h2 h3)
end
/-- What a list's taking holds: the elements so far in an own row behind A, all blocks of A but those of K as they were. -/
structure Tl {α : Type} (E : Ek α) (K : Nat → Prop) (A W : World) (v : Value) (L : List α) : Prop where
  ox : OX E W v L
  far : ∀ g, v.ownBlock = some g → A.heap.size ≤ g
  fr : Rfk K A W
section
variable {α : Type} {E : Ek α} {K : Nat → Prop} {A W W' : World} {v v' : Value} {L : List α}
theorem Tl.start (fr : Rfk K A W) : Tl E K A W (.slice none 0 0) [] := ⟨OX.nil _, fun g h => (by cases h), fr⟩
theorem Tl.call (h : Tl E K A W v L) (hK : ∀ j, K j → j < A.heap.size) (f : Rfk K W W') : Tl E K A W' v L :=
  ⟨h.ox.of_block fun g hg => f.block g (h.ox.lt g hg) (fun k => by have := hK g k; have := h.far g hg; omega), h.far, h.fr.trans f⟩
theorem Tl.app (h : Tl E K A W v L) {N : List α} (o : OX E W' v' N) (on : Onto W W' v v') : Tl E K A W' v' N ∧ ∀ j, j < A.heap.size → W'.heap[j]? = W.heap[j]? := by
  have g := on.grown
  have hk : ∀ k, k < A.heap.size → W'.heap[k]? = W.heap[k]? := fun k hk => g.block k (by have := h.fr.size; omega) (fun e => by have := h.far k e.symm; omega)
  refine ⟨⟨o, fun g hg => ?_, ⟨g.os.trans h.fr.os, g.tape.trans h.fr.tape, g.output.trans h.fr.output, Nat.le_trans h.fr.size g.size, fun k h1 h2 => (hk k h1).trans (h.fr.block k h1 h2)⟩⟩, hk⟩
  rcases on.lies with e | ⟨b, e, hb⟩
  · exact h.far g (by rw [← e]; exact hg)
  · rw [e] at hg
    cases hg
    exact Nat.le_trans h.fr.size hb
end
section
set_option maxRecDepth 10000
set_option maxHeartbeats 2000000
theorem take_net (K : Nat → Prop) (I : Nat → World → Prop) (L : List Nt) (F : Nat) (fa ca : Array Value) (b : Nat) (t : ByteArray) (R : Nat → List UInt8) (most : Nat) (hn : L.length ≤ most) (h5 : L.length ≤ 65535) (hs : t.size ≤ maxLen) (hb : K b)
    (hG : ∀ k W, I k W → Gr W b t (R k)) (hI : ∀ k W W', I k W → (∀ j, K j → W'.heap[j]? = W.heap[j]?) → I k W')
    (hcf : ∀ W, (callFunc F (fa ++ ca)).run Tryz.prog W = .ok (.enter F (fa ++ ca)) W)
    (hc : ∀ k (h : k < L.length) W, I k W → Calls Tryz.prog F (fa ++ ca) W fun e w' => (∃ x, L[k]? = some x ∧ e = .returned (.agg x.cells.toArray)) ∧ I (k + 1) w' ∧ Rfk K W w')
    (w : World) (hK : ∀ j, K j → j < w.heap.size) (h0 : Gr w b t (countL L.length ++ R 0)) (hI0 : ∀ W, Gr W b t (R 0) → (∀ j, K j → j ≠ b → W.heap[j]? = w.heap[j]?) → I 0 W) :
    Calls Tryz.prog 78 #[pv b t, .int .u64 (most : Int), .func (.func F) fa ca] w fun e w' => ∃ v, e = .returned v ∧ OX KN w' v L ∧ (∀ g, v.ownBlock = some g → w.heap.size ≤ g) ∧ I L.length w' ∧ Rfk K w w' := by
  have r1 := heap_alloc_last w (.cells #[.pointer (some ⟨b, 0, none⟩), .string t] 85)
  have b1 := (Below.refl w.heap.size w).alloc (Nat.le_refl _) (.cells #[.pointer (some ⟨b, 0, none⟩), .string t] 85)
  have sz := b1.size
  have g0 := h0.below b1
  have KB : Hid (∀ j, K j → j < w.heap.size) := hK
  have F0 := hide (Rfk.below (K := K) b1)
  have B0 := hide b1
  unfold pv
  have LE : Hid (L.length ≤ 65535) := h5
  generalize hA : w.alloc (.cells #[.pointer (some ⟨b, 0, none⟩), .string t] 85) = A at *
  have KA : Hid (∀ j, K j → j < A.heap.size) := fun j hj => Nat.lt_of_lt_of_le (hK j hj) sz
  have CC : Hid (∀ W, Rfk K A W → W.cell? ⟨w.heap.size, 0, none⟩ = some (.pointer (some ⟨b, 0, none⟩))) := fun W f => by
    have hW := (f.block _ (lt_heap r1) (fun k => by have := hK _ k; omega)).trans r1
    rw [cell_of_row _ _ _ _ _ _ hW]; rfl
  have c0 := CC.out A (Rfk.below (Below.refl _ _))
  have HC := hide (g0.count L.length most h5 hn hs)
  have HG := hide hG
  have HI := hide hI
  have H0 : Hid (∀ W, Gr W b t (R 0) → Rfr b A W → I 0 W) := fun W g f => hI0 W g (fun j hj hn => (f.block j (Nat.lt_of_lt_of_le (hK j hj) sz) hn).trans (b1.block j (hK j hj)))
  have HF := hide hcf
  have HS := hide hc
  have KBb : Hid (K b) := hb
  clear hn h5 hs hb hG hI hcf hc h0 hI0 r1 b1 g0 hK sz
  go_enter Tryz.func78, Tryz.ntmps78
  go_upto_region 1 with fail
  try rw [hA]
  clear hA
  go_upto_region 3 with (go_at_call 115; with_reducible refine HC.out.mono ?_; rintro e W1 ⟨rfl, g1, f1⟩; have G1 := hide g1; have F1 := hide f1; clear g1 f1)
  have I1 := hide (H0.out _ G1.out F1.out)
  have T1 : Hid (Tl KN K A W1 (.slice none 0 0) (L.take 0)) := by
    show Tl _ _ _ _ _ _
    rw [List.take_zero]
    exact Tl.start (Rfk.of F1.out KBb.out)
  clear G1 F1
  clear HC c0 H0
  go_loopw [7, 12] (fun v i wr => ∃ k : Nat, k ≤ L.length ∧ i = .int .u64 (k : Int) ∧ Hid (Tl KN K A wr v (L.take k)) ∧ Hid (I k wr)) (fun _ i _ => (L.length - intOf i).toNat)
  case atStart => exact ⟨0, Nat.zero_le _, rfl, T1, I1⟩
  case round =>
    clear T1 I1
    obtain ⟨k, hk, rfl, hT, hP⟩ := hrel
    by_cases hlt : k < L.length
    · have h1 : (k : Int) < (L.length : Int) := by omega
      have h2 : (0 : Int) ≤ (k : Int) := by omega
      have e1 : IntKind.u64.wrap ((k : Int) + 1) = k + 1 := wrapu _ (by omega) (by have := LE.out; omega)
      have c1 := CC.out wr hT.out.fr
      have HE := hide (HG.out k wr hP.out).err
      have HK := hide (HS.out k hlt wr hP.out)
      have hcf := HF.out wr
      have NX : Hid (∀ x, L[k]? = some x → L.take (k + 1) = L.take k ++ [x]) := fun x h => by rw [List.take_add_one, h]; rfl
      have LT := hide hlt
      have LK := hide (show (L.take k).length = k by rw [List.length_take]; omega)
      have SZ : Hid (((L.take k).length + 1) * KN.b ≤ 140737488355328 ∧ (L.take k).length + 1 ≤ maxLen) := by
        show _ ∧ _
        rw [LK.out]
        have := LE.out
        refine ⟨?_, by unfold maxLen; omega⟩
        show (k + 1) * 40 ≤ _
        omega
      clear hlt
      go_upto_region 6 with (go_at_call 96; with_reducible refine HE.out.mono ?_; rintro e W2 ⟨rfl, rfl⟩)
      clear c1
      go_upto_region 7 with (first | (with_reducible refine HK.out.mono ?_; rintro e W3 ⟨⟨x, hx, rfl⟩, i3, f3⟩; have T3 := hide (hT.out.call KA.out f3); have I3 := hide i3; have X3 := hide hx; clear i3 f3 hx) | ((with_reducible refine at_list ?_); first | (refine Ek.wpBs1v KN rfl _ rfl x (.agg x.cells.toArray) rfl rfl ?_; have b4 := (Below.refl W3.heap.size W3).alloc (Nat.le_refl _) (.cells (KN.enc x).toArray KN.e); have N4 := hide (one_newX (E := KN) W3 x); have T4 := hide (T3.out.call KA.out (Rfk.below b4)); have I4 := hide (HI.out _ _ _ I3.out (fun j hj => b4.block j (Nat.lt_of_lt_of_le (KA.out j hj) T3.out.fr.size))); clear b4 T3 I3; generalize W3.alloc (.cells (KN.enc x).toArray KN.e) = W4 at *; generalize W3.heap.size = gb at *) | (refine Ek.wpApp1 KN rfl _ _ rfl u7 (L.take k) rfl T4.out.ox ⟨gb, 0, none⟩ x rfl N4.out SZ.out.1 SZ.out.2 ?_; intro v5 W5 o5 n5; have Q5 := hide (T4.out.app o5 n5); have I5 := hide (HI.out _ _ _ I4.out (fun j hj => Q5.out.2 j (KA.out j hj))); clear o5 n5)))
      have T6 : Hid (Tl KN K A W5 v5 (L.take (k + 1))) := by show Tl _ _ _ _ _ _; rw [NX.out _ X3.out]; exact Q5.out.1
      clear HE HK hcf NX Q5 T4 I4 X3
      go_wp2
      go_round
      case rel => exact ⟨k + 1, LT.out, by go_num, T6, I5⟩
      case measure => have := LT.out; simp [intOf]; omega
    · have h1 : ¬ (k : Int) < (L.length : Int) := by omega
      have hkn : k = L.length := by omega
      go_wp2
      go_ret
      refine ⟨_, rfl, ?_, fun g hg => Nat.le_trans B0.out.size (hT.out.far g hg), ?_, F0.out.trans hT.out.fr⟩
      · have := hT.out.ox
        rw [hkn, List.take_length] at this
        exact this
      · rw [← hkn]
        exact hP.out
end
end Go.Proofs.YtkoidjaaojmcnaaGreat
