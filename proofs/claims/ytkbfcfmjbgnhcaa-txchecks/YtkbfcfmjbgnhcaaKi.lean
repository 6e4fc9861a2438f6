/- tx's parts: ids, scripts: their contracts. -/
import Derived.Test.YtkbfcfmjbgnhcaaKh
import Derived.Test.YtkbfcfmjbgnhcaaKc
namespace Go.Proofs.Ytkbfcfmjbgnhcaa
open Go.RowKit
open Go.Deep
set_option linter.unusedVariables false
section
set_option maxRecDepth 10000
set_option maxHeartbeats 4000000
variable {w : World} {b : Nat} {t : ByteArray} {n : Nat} {e : Int}
theorem tscript_any (h : Rd w b t n e) (hs : t.size ≤ maxLen) : Calls Try.prog 51 #[px b t] w fun r w' => ∃ (v : ByteArray) (n' : Nat) (e' : Int), r = .returned (.string v) ∧ v.size ≤ 520 ∧ Rd w' b t n' e' ∧ Rfr b w w' ∧ Tk txtL (fun x => x.size ≤ 520) t n e v n' e' := by
  have P0 := hide (Px.new (t := t) h.st.lt)
  have b1 := (Below.refl w.heap.size w).alloc (Nat.le_refl _) (.cells #[.string t, .pointer (some ⟨b, 0, none⟩)] 82)
  have R0 := hide (h.below b1)
  have HC : Hid (∀ W n e, Rd W b t n e → Calls Try.prog 49 #[.agg #[.string t, .pointer (some ⟨b, 0, none⟩)], .int .u64 520, .int .i64 100] W fun r w' => ∃ (c n' : Nat) (e' : Int), r = .returned (.int .i64 (c : Int)) ∧ c ≤ 520 ∧ Rd w' b t n' e' ∧ Rfr b W w' ∧ Tk countL (fun k => k ≤ 520) t n e c n' e') := fun W n e g => tcount_any 520 (by decide) 100 (by decide) g hs
  have HB : Hid (∀ W n e (k : Nat), k ≤ 520 → Rd W b t n e → Calls Try.prog 59 #[.agg #[.string t, .pointer (some ⟨b, 0, none⟩)], .int .i64 (k : Int)] W fun r w' => ∃ (v : ByteArray) (n' : Nat) (e' : Int), r = .returned (.string v) ∧ (v.size = k ∨ v = ⟨#[]⟩) ∧ Rd w' b t n' e' ∧ Rfr b W w' ∧ Tk (fun x : ByteArray => x.data.toList) (fun x => x.size = k) t n e v n' e') := fun W n e k hk g => tbytes_any k (by omega) g hs
  unfold px
  clear h b1 hs
  generalize hA : w.alloc (.cells #[.string t, .pointer (some ⟨b, 0, none⟩)] 82) = A at *
  go_enter Try.func51, Try.ntmps51
  go_upto_region 1 with fail
  clear hA
  refine wp_region_held_drew (S := fun W => Rfr b A W) (by kernel_rfl) (Rfr.drew b A) (fun hH => ?_)
  have R3 := hide (show Rd A.drew b t n _ from ⟨R0.out.le, R0.out.lt, R0.out.st⟩)
  have F3 := hide (Rfr.drew b A)
  generalize A.drew = W3 at *
  refine wpAnyH_take (i := 0) (v := (.agg #[.string t, .pointer (some ⟨b, 0, none⟩)])) rfl (by kernel_rfl) (by kernel_rfl) (by kernel_rfl) (fun _ _ _ h => h) (yl_load (by rfl) _ (by rfl) _ #[.string t, .pointer (some ⟨b, 0, none⟩)] (by rfl) (fun W hS => ld_row APx rfl (P0.out.step hS).row)) hH ?_
  change wpAnyH _ _ _ _ _ _ _ (Act.put _ (some 3) _) _
  simp only [Act.put, List.setIfInBounds_toArray, List.set_cons_zero, List.set_cons_succ]
  refine wpAnyH_take (i := 1) (v := (.agg #[.string t, .pointer (some ⟨b, 0, none⟩)])) rfl (by kernel_rfl) (by kernel_rfl) (by kernel_rfl) (fun _ _ _ h => h) (yl_load (by rfl) _ (by rfl) _ #[.string t, .pointer (some ⟨b, 0, none⟩)] (by rfl) (fun W hS => ld_row APx rfl (P0.out.step hS).row)) hH ?_
  change wpAnyH _ _ _ _ _ _ _ (Act.put _ (some 4) _) _
  simp only [Act.put, List.setIfInBounds_toArray, List.set_cons_zero, List.set_cons_succ]
  refine wpAnyH_ready (rs := [2]) (by kernel_rfl) (by simp) (AllReadyH.cons rfl (fun K1 hK1 => ?_) AllReadyH.nil)
  go_simp
  refine (HC.out _ _ _ R3.out).mono ?_
  rintro r W4 ⟨c, n1, e1, rfl, hc, g1, f1, t1⟩
  have R4 := hide g1
  have F4 := hide (F3.out.trans f1)
  have T4 := hide t1
  have CM := hide hc
  clear g1 f1 t1 hc
  refine hK1.out _ _ F4.out (fun hH => ?_)
  clear hK1
  refine wpAnyH_ready (rs := [3]) (by kernel_rfl) (by simp) (AllReadyH.cons rfl (fun K1 hK1 => ?_) AllReadyH.nil)
  go_simp
  refine (HB.out _ _ _ c CM.out R4.out).mono ?_
  rintro r W5 ⟨v, n2, e2, rfl, hz, g1, f1, t1⟩
  have R5 := hide g1
  have F5 := hide (F4.out.trans f1)
  have T5 := hide t1
  have VZ : Hid (v.size ≤ 520) := by
    have := CM.out
    rcases hz with hz | rfl
    · show v.size ≤ 520; omega
    · show (0 : Nat) ≤ 520; omega
  clear g1 f1 t1 hz
  refine hK1.out _ _ F5.out (fun hH => ?_)
  clear hK1
  refine wpAnyH_ready (rs := [4]) (by kernel_rfl) (by simp) (AllReadyH.cons rfl (fun K1 hK1 => ?_) AllReadyH.nil)
  go_simp
  refine hK1.out _ _ F5.out (fun hH => ?_)
  clear hK1
  refine wpAnyH_done (by kernel_rfl) ?_ _
  clear hH HC HB
  go_wp2
  go_ret
  exact ⟨v, n2, e2, rfl, VZ.out, R5.out, P0.out.fr.trans F5.out, T4.out.text T5.out⟩
theorem tid_any (h : Rd w b t n e) (hs : t.size ≤ maxLen) : Calls Try.prog 50 #[px b t] w fun r w' => ∃ (v : Id32) (n' : Nat) (e' : Int), r = .returned (.agg (hc v.1)) ∧ Rd w' b t n' e' ∧ Rfr b w w' ∧ Tk (fun v : Id32 => v.1) (fun _ => True) t n e v n' e' := by
  have hlt := h.st.lt
  have r0 := heap_alloc_last w (.cells #[.string t, .pointer (some ⟨b, 0, none⟩)] 82)
  have b3 := below3 w (.cells #[.string t, .pointer (some ⟨b, 0, none⟩)] 82) (.cells (hc zeros) 44) (.cells (hc zeros) 44)
  obtain ⟨x0, x1, x2⟩ := blk3 w (.cells #[.string t, .pointer (some ⟨b, 0, none⟩)] 82) (.cells (hc zeros) 44) (.cells (hc zeros) 44)
  have R0 := hide (h.below b3)
  have F0 := hide (Rfr.below (b := b) b3)
  have HB : Hid (∀ W, Rd W b t n e → Calls Try.prog 59 #[.agg #[.string t, .pointer (some ⟨b, 0, none⟩)], .int .i64 32] W fun r w' => ∃ (v : ByteArray) (n' : Nat) (e' : Int), r = .returned (.string v) ∧ (v.size = 32 ∨ v = ⟨#[]⟩) ∧ Rd w' b t n' e' ∧ Rfr b W w' ∧ Tk (fun x : ByteArray => x.data.toList) (fun x => x.size = 32) t n e v n' e') := fun W g => tbytes_any 32 (by omega) g hs
  have X := hide (And.intro x0 (And.intro x1 x2))
  have LT := hide hlt
  have hZ : (hc zeros).size = 32 := by rw [hc_size, zeros_len]
  have HZ := hide hZ
  have HZ1 := hide (hc_one zeros)
  clear h hs hlt r0 b3 x0 x1 x2 hZ
  unfold px
  have sz1 : (w.alloc (.cells #[.string t, .pointer (some ⟨b, 0, none⟩)] 82)).heap.size = w.heap.size + 1 := by simp
  have sz2 : ((w.alloc (.cells #[.string t, .pointer (some ⟨b, 0, none⟩)] 82)).alloc (.cells (hc zeros) 44)).heap.size = w.heap.size + 1 + 1 := by simp
  go_enter Try.func50, Try.ntmps50
  go_upto_region 2 with ((with_reducible refine at_list ?_); refine wpList_allocA A25 rfl rfl ?_)
  try rw [sz1]
  try rw [sz2]
  clear sz1 sz2
  generalize ((w.alloc (.cells #[.string t, .pointer (some ⟨b, 0, none⟩)] 82)).alloc (.cells (hc zeros) 44)).alloc (.cells (hc zeros) 44) = A at *
  refine wp_region_held_drew (S := fun W => W.heap[w.heap.size]? = some (.cells #[.string t, .pointer (some ⟨b, 0, none⟩)] 82 (0, 0))) (by kernel_rfl) X.out.1 (fun hH => ?_)
  have R3 := hide (show Rd A.drew b t n _ from ⟨R0.out.le, R0.out.lt, R0.out.st⟩)
  have F3 := hide (Rfr.drew b A)
  generalize A.drew = W3 at *
  refine wpAnyH_take (i := 0) (v := (.slice (some ⟨w.heap.size + 1 + 1, 0, none⟩) 32 32)) rfl (by kernel_rfl) (by kernel_rfl) (by kernel_rfl) (fun _ _ _ h => h) (.inl ⟨by rfl, fun W _ => by go_simp⟩) hH ?_
  change wpAnyH _ _ _ _ _ _ _ (Act.put _ (some 4) _) _
  simp only [Act.put, List.setIfInBounds_toArray, List.set_cons_zero, List.set_cons_succ]
  refine wpAnyH_take (i := 1) (v := (.agg #[.string t, .pointer (some ⟨b, 0, none⟩)])) rfl (by kernel_rfl) (by kernel_rfl) (by kernel_rfl) (fun _ _ _ h => h) (yl_load (by rfl) _ (by rfl) _ #[.string t, .pointer (some ⟨b, 0, none⟩)] (by rfl) (fun W hS => ld_row APx rfl hS)) hH ?_
  change wpAnyH _ _ _ _ _ _ _ (Act.put _ (some 5) _) _
  simp only [Act.put, List.setIfInBounds_toArray, List.set_cons_zero, List.set_cons_succ]
  refine wpAnyH_ready (rs := [2]) (by kernel_rfl) (by simp) (AllReadyH.cons rfl (fun K1 hK1 => ?_) AllReadyH.nil)
  go_simp
  refine (HB.out _ R3.out).mono ?_
  rintro r W4 ⟨v, n1, e1, rfl, hv, g1, f1, t1⟩
  have FF := F3.out.trans f1
  have y0 := (FF.block _ (lt_heap X.out.1) (by have := LT.out; omega)).trans X.out.1
  have y1 := (FF.block _ (lt_heap X.out.2.1) (by have := LT.out; omega)).trans X.out.2.1
  have y2 := (FF.block _ (lt_heap X.out.2.2) (by have := LT.out; omega)).trans X.out.2.2
  have R4 := hide g1
  have F4 := hide (F0.out.trans FF)
  have T4 := hide t1
  clear g1 f1 t1 FF
  refine hK1.out _ _ y0 (fun hH => ?_)
  clear hK1
  rcases hv with hv | rfl
  · have hid : idOf v = ⟨v.data.toList, by simpa using hv⟩ := by unfold idOf; rw [dif_pos hv]
    have hvl : v.data.toList.length = 32 := by simpa using hv
    have hcp := copy33 W4 (w.heap.size + 1 + 1) v hv zeros zeros_len 44 y2
    have z0 := (setRow_other W4 (w.heap.size + 1 + 1) w.heap.size (hc v.data.toList) (by omega)).trans y0
    have z1 := (setRow_other W4 (w.heap.size + 1 + 1) (w.heap.size + 1) (hc v.data.toList) (by omega)).trans y1
    have z2 := setRow_heap W4 (w.heap.size + 1 + 1) _ (hc v.data.toList) _ _ y2
    refine wpAnyH_ready (rs := [3]) (by kernel_rfl) (by simp) (AllReadyH.cons rfl (fun K1 hK1 => ?_) AllReadyH.nil)
    go_simp
    refine hK1.out _ _ z0 (fun hH => ?_)
    clear hK1 hcp
    refine wpAnyH_done (by kernel_rfl) ?_ _
    have Z1 := hide z1
    have Z2 := hide z2
    have HH := hide (hc_one v.data.toList)
    have HL : Hid ((hc v.data.toList).size = 32) := by show _ = _; rw [hc_size, hvl]
    have RA : Hid (Rd ((W4.setRow (w.heap.size + 1 + 1) (hc v.data.toList)).setRow (w.heap.size + 1) (hc v.data.toList)) b t n1 e1) := ⟨R4.out.le, R4.out.lt, (R4.out.st.setRow _ (by have := LT.out; omega) _).setRow _ (by have := LT.out; omega) _⟩
    have FA : Hid (Rfr b w ((W4.setRow (w.heap.size + 1 + 1) (hc v.data.toList)).setRow (w.heap.size + 1) (hc v.data.toList))) := (F4.out.setRow _ (by omega) _).setRow _ (by omega) _
    clear z0 z1 z2 y0 y1 y2 hH
    go_wp2_with ((with_reducible refine at_list ?_); first | (refine wpList_loadA A25 rfl _ rfl (w.heap.size + 1 + 1) rfl (hc v.data.toList) HL.out 44 Z2.out ?_) | (refine wpList_storeA A25 rfl _ _ rfl (w.heap.size + 1) (hc v.data.toList) HL.out HH.out rfl rfl (hc zeros) HZ.out 44 Z1.out ?_))
    refine bodyPost_ret (v := .agg (hc v.data.toList)) (resA A25 Try.results50 _ _ (w.heap.size + 1) 44 _ HL.out rfl (setRow_heap _ _ _ _ _ _ Z1.out)) rfl ⟨idOf v, n1, e1, by rw [hid], RA.out, FA.out, T4.out.id⟩
  · have hid : (idOf ⟨#[]⟩).1 = zeros := by decide
    have hcp := fun W d a b => copy_none W d a b
    refine wpAnyH_ready (rs := [3]) (by kernel_rfl) (by simp) (AllReadyH.cons rfl (fun K1 hK1 => ?_) AllReadyH.nil)
    go_simp
    refine hK1.out _ _ y0 (fun hH => ?_)
    clear hK1 hcp
    refine wpAnyH_done (by kernel_rfl) ?_ _
    have Z1 := hide y1
    have Z2 := hide y2
    have RA : Hid (Rd (W4.setRow (w.heap.size + 1) (hc zeros)) b t n1 e1) := ⟨R4.out.le, R4.out.lt, R4.out.st.setRow _ (by have := LT.out; omega) _⟩
    have FA : Hid (Rfr b w (W4.setRow (w.heap.size + 1) (hc zeros))) := F4.out.setRow _ (by omega) _
    clear y0 y1 y2 hH
    go_wp2_with ((with_reducible refine at_list ?_); first | (refine wpList_loadA A25 rfl _ rfl (w.heap.size + 1 + 1) rfl (hc zeros) HZ.out 44 Z2.out ?_) | (refine wpList_storeA A25 rfl _ _ rfl (w.heap.size + 1) (hc zeros) HZ.out HZ1.out rfl rfl (hc zeros) HZ.out 44 Z1.out ?_))
    refine bodyPost_ret (v := .agg (hc zeros)) (resA A25 Try.results50 _ _ (w.heap.size + 1) 44 _ HZ.out rfl (setRow_heap _ _ _ _ _ _ Z1.out)) rfl ⟨idOf ⟨#[]⟩, n1, e1, by rw [hid], RA.out, FA.out, T4.out.id⟩
end
end Go.Proofs.Ytkbfcfmjbgnhcaa
