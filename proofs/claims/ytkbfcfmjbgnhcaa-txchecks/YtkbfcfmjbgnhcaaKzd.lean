/- tx.hasTwin: its contract. -/
import Derived.Test.YtkbfcfmjbgnhcaaKzc
namespace Go.Proofs.Ytkbfcfmjbgnhcaa
open Go.RowKit
open Go.Deep
open Go.Maps
set_option linter.unusedVariables false
/-- The set of points that were met. -/
def PtD (L : List Tp) (k : Nat) (D : DataW Unit) : Prop := ∀ p : Tp, Maps.has D (.string p.keyB) = true ↔ p ∈ L.take k
theorem PtD.zero (L : List Tp) : PtD L 0 (.map []) := by
  intro p
  constructor
  · intro h; cases h
  · intro h; simp at h
theorem PtD.new {L : List Tp} {k : Nat} {D : DataW Unit} (h : PtD L k D) (hk : k < L.length) (hD : IsMap D) (d : DataW Unit) : PtD L (k + 1) (D.put (.string L[k].keyB) d) := by
  intro p
  rw [← List.take_append_getElem hk, List.mem_append, List.mem_singleton]
  by_cases e : p = L[k]
  · rw [e, has_put_same hD (by simp [WideAt.IsKeyLit])]
    exact ⟨fun _ => .inr rfl, fun _ => rfl⟩
  · rw [has_put_other (by intro e2; exact e (Tp.keyB_inj _ _ (Lit.string.inj e2))), h p]
    exact ⟨fun h => .inl h, fun h => h.resolve_right e⟩
theorem twin_here (L : List Tp) (k : Nat) (hk : k < L.length) (h : L[k] ∈ L.take k) : ¬ L.Nodup := by
  intro hn
  rw [← List.take_append_drop k L, List.nodup_append] at hn
  exact hn.2.2 _ h _ (show L[k] ∈ L.drop k by rw [List.drop_eq_getElem_cons hk]; exact List.mem_cons_self) rfl
theorem twin_not (L : List Tp) (k : Nat) (hk : k < L.length) (hn : (L.take k).Nodup) (h : L[k] ∉ L.take k) : (L.take (k + 1)).Nodup := by
  rw [← List.take_append_getElem hk, List.nodup_append]
  refine ⟨hn, by simp, fun a ha b hb e => ?_⟩
  rw [List.mem_singleton.1 hb] at e
  exact h (e ▸ ha)
theorem grown_belowP {W W' : World} (h : Below W.heap.size W W') : W.grownBy W' none := ⟨h.os, h.tape, h.output, h.size, fun k hk _ => h.block k hk⟩
theorem below_grownP {w W W' : World} {g : Nat} (h : Below w.heap.size w W) (hg : W.grownBy W' (some g)) (hle : w.heap.size ≤ g) : Below w.heap.size w W' :=
  h.trans ⟨hg.os, hg.tape, hg.output, hg.size, fun k hk => hg.block k (Nat.lt_of_lt_of_le hk h.size) (by intro e; cases e; omega)⟩
theorem make_none (t k e : TypeId) (ht : Try.prog.underlying t = some (.map k e)) (w : World) : (Instr.makeMap t none).run Try.prog w = .ok (.map (some w.heap.size)) (w.alloc (.map #[] 0)) := by
  unfold Instr.makeMap
  simp [newObj]
  rfl
/-- What is known of the world in hasTwin. -/
structure Jt (w W : World) (n : Nat) (D : DataW Unit) : Prop where
  met : W.ownsMap Try.prog 46 unitElem (w.heap.size + 1) n D
  below : Below w.heap.size w W
theorem Jt.next {w W W' : World} {n : Nat} {D : DataW Unit} (j : Jt w W n D) (h : Below W.heap.size W W') : Jt w W' n D :=
  ⟨j.met.kept (grown_belowP h) (by simp), j.below.trans (h.mono j.below.size)⟩
section
set_option maxRecDepth 10000
set_option maxHeartbeats 4000000
theorem hasTwin_any (m : Tm) (ai : Option Addr) (ci : Nat) (ao : Option Addr) (co : Nat) (w : World) (hl : LT w m ai ci ao co) (hf : m.fit) : Calls Try.prog 15 #[.agg (m.cells ai ci ao co)] w fun e w' => e = .returned (.bool (decide (¬ (m.ins.map Ti.pt).Nodup))) ∧ Below w.heap.size w w' := by
  have HF := hide hf
  have HL := hide hl
  have s1 : (w.alloc (.cells (m.cells ai ci ao co) 26)).heap.size = w.heap.size + 1 := by simp
  have r1 := (Below.heap_alloc _ (.map #[] 0) _ (lt_heap (heap_alloc_last w (.cells (m.cells ai ci ao co) 26)))).trans (heap_alloc_last w (.cells (m.cells ai ci ao co) 26))
  have c1 : ((w.alloc (.cells (m.cells ai ci ao co) 26)).alloc (.map #[] 0)).cell? ⟨w.heap.size, 1, none⟩ = some (.slice ai m.ins.length ci) := by rw [cell_of_row _ _ _ _ _ _ r1]; rfl
  have J0 : Hid (Jt w ((w.alloc (.cells (m.cells ai ci ao co) 26)).alloc (.map #[] 0)) 0 (.map [])) := by
    have o1 := World.ownsMap_made (H := Unit) (w.alloc (.cells (m.cells ai ci ao co) 26)) Try.prog 46 unitElem
    rw [s1] at o1
    exact ⟨o1, ((Below.refl _ _).alloc (Nat.le_refl _) _).alloc (by rw [s1]; omega) _⟩
  have z1 := hide (PtD.zero (m.ins.map Ti.pt))
  have mk := make_none 70 46 71 Try.underlying70
  clear hf hl r1
  generalize m.cells ai ci ao co = C at *
  go_enter Try.func15, Try.ntmps15
  go_upto_region 2 with ((with_reducible refine at_list ?_); refine wpList_boxA rfl _ rfl C rfl ?_)
  try rw [s1]
  clear s1 mk
  generalize (w.alloc (.cells C 26)).alloc (.map #[] 0) = W0 at *
  go_upto_region 3 with fail
  clear c1
  go_loopw [12] (fun c wr => ∃ (k : Nat) (D : DataW Unit), k ≤ m.ins.length ∧ c = .int .i64 (k : Int) ∧ Hid (Jt w wr k D) ∧ Hid (PtD (m.ins.map Ti.pt) k D) ∧ Hid (((m.ins.map Ti.pt).take k).Nodup)) (fun c _ => (m.ins.length - intOf c).toNat)
  case atStart => exact ⟨0, _, Nat.zero_le _, rfl, J0, z1, by show List.Nodup _; simp⟩
  case round =>
    clear J0 z1
    obtain ⟨k, D, hk, rfl, J, hM, hN⟩ := hrel
    by_cases hlt : k < m.ins.length
    · have h1 : (k : Int) < (m.ins.length : Int) := by omega
      have h2 : (0 : Int) ≤ (k : Int) := by omega
      have h5 := HF.out.i
      have e1 : IntKind.i64.wrap ((k : Int) + 1) = k + 1 := wrapI _ (by omega) (by omega)
      have KK := hide (And.intro (show k + 1 ≤ m.ins.length by omega) (show ((m.ins.length : Int) - ((k : Int) + 1)).toNat < ((m.ins.length : Int) - (k : Int)).toNat by omega))
      have KM := hide (show k < maxLen by unfold maxLen; omega)
      obtain ⟨ga, oa, rfl⟩ := HL.out.i.base (by omega)
      have RG : Hid (wr.rangeAt ga (oa + k * 35) m.ins[k].cells) := (HL.out.below J.out.below).i.range k hlt
      have hkL : k < (m.ins.map Ti.pt).length := by simpa using hlt
      have TH := hide (twin_here (m.ins.map Ti.pt) k hkL)
      have TN := hide (twin_not (m.ins.map Ti.pt) k hkL hN.out)
      have TD := hide (fun h d => hM.out.new hkL h d)
      have hMk := hide (hM.out (m.ins[k]).pt)
      simp only [List.getElem_map] at TH TN TD
      have hkey := keyP (m.ins[k]).pt
      generalize m.ins[k] = x at *
      generalize hLL : m.ins.map Ti.pt = L at *
      have HLL := hide hLL
      clear hLL
      clear hk hlt h5 hkL hM hN
      go_upto_region 5 with ((with_reducible refine at_list ?_); first | refine wpLoadI _ rfl ga (oa + k * 35) rfl x RG.out (by rfl) ?_ | refine wpList_allocA AI rfl rfl ?_ | refine wpList_store_newA AI rfl _ _ rfl _ rfl x.cells.toArray x.size x.all rfl rfl ?_)
      have J1 := hide (J.out.next ((Below.refl wr.heap.size wr).alloc (Nat.le_refl _) (.cells x.cells.toArray 48)))
      have RP := hide (x.ptAt (rowAt _ (heap_alloc_last wr (.cells x.cells.toArray 48))))
      have RI := hide (heap_alloc_last wr (.cells x.cells.toArray 48))
      clear J RG
      generalize wr.alloc (.cells x.cells.toArray 48) = W1 at *
      generalize wr.heap.size = gI at *
      have b1 : Hid (Below W1.heap.size W1 (W1.alloc (.cells #[] 71))) := (Below.refl W1.heap.size W1).alloc (Nat.le_refl _) (.cells #[] 71)
      have J2 := hide (J1.out.next b1.out)
      have RP2 := hide (x.ptAt (rowAt _ ((b1.out.block _ (lt_heap RI.out)).trans RI.out)))
      generalize x.pt = p at *
      by_cases hm : p ∈ L.take k
      · have h9 : Maps.has D (.string p.keyB) = true := hMk.out.2 hm
        have TT := hide (TH.out hm)
        clear hm TH TN TD hMk
        go_upto_region 6 with (first | ((with_reducible refine at_list ?_); refine wpLoadP _ rfl gI 0 rfl p RP.out (by rfl) ?_) | (at_lookup; refine wpList_lookup_own_unit _ rfl _ _ 70 rfl 46 71 lawP Try.underlying70 (zeroSP _) (w.heap.size + 1) k D rfl J1.out.met _ _ rfl hkey ?_))
        go_wp2
        go_ret
        exact ⟨by rw [HLL.out, decide_eq_true TT.out]; rfl, J2.out.below⟩
      · have h9 : Maps.has D (.string p.keyB) = false := by
          cases e : Maps.has D (.string p.keyB)
          · rfl
          · exact absurd (hMk.out.1 e) hm
        have TN2 := hide (TN.out hm)
        have TD2 := hide (TD.out J2.out.met.isMap (.agg []))
        clear hm TH TN TD hMk
        go_upto_region 6 with (first | ((with_reducible refine at_list ?_); refine wpLoadP _ rfl gI 0 rfl p RP.out (by rfl) ?_) | (at_lookup; refine wpList_lookup_own_unit _ rfl _ _ 70 rfl 46 71 lawP Try.underlying70 (zeroSP _) (w.heap.size + 1) k D rfl J1.out.met _ _ rfl hkey ?_))
        clear J1 RP b1 h9 RI
        generalize W1.alloc (.cells #[] 71) = W2 at *
        go_upto_region 9 with (first | ((with_reducible refine at_list ?_); refine wpLoadP _ rfl gI 0 rfl p RP2.out (by rfl) ?_) | (at_mapUpdate; refine wpList_mapUpdate_own _ rfl _ _ _ 70 rfl 46 71 lawP Try.underlying70 (unitElem (H := Unit)) (w.heap.size + 1) k D rfl J2.out.met KM.out _ _ _ rfl rfl hkey _ [] unitElem_mk ?_; intro W3 ho3 hg3))
        have J3 : Hid (Jt w W3 (k + 1) (D.put (.string p.keyB) (.agg []))) := ⟨ho3, below_grownP J2.out.below hg3 (by omega)⟩
        clear ho3 hg3 J2 RP2
        go_wp2
        exact ⟨⟨k + 1, _, KK.out.1, by go_num, J3, TD2, TN2⟩, by simpa [intOf] using KK.out.2⟩
    · have h1 : ¬ (k : Int) < (m.ins.length : Int) := by omega
      have hN2 := hN.out
      rw [List.take_of_length_le (by simp; omega)] at hN2
      have HN := hide hN2
      clear hk hlt hN hM hN2
      go_wp2
      go_ret
      exact ⟨by first | (rw [decide_eq_true HN.out]; rfl) | (rw [decide_eq_false (not_not_intro HN.out)]; rfl), J.out.below⟩
end
end Go.Proofs.Ytkbfcfmjbgnhcaa
