/- What a message's parts are read by: text, raw, short. A ping there and back: Encode, Decode, the law's awake. -/
import Derived.Test.YtkoidjaaojmcnaaGreatM36
import Derived.Test.YtkoidjaaojmcnaaGreatM11
import Derived.Test.YtkoidjaaojmcnaaGreatM20
namespace Go.Proofs.YtkoidjaaojmcnaaGreat
open Go.RowKit
open Go.Deep
set_option linter.unusedVariables false
set_option linter.unusedSimpArgs false
def pv (b : Nat) (t : ByteArray) : Value := .agg #[.pointer (some ⟨b, 0, none⟩), .string t]
theorem Gr.below {w w' : World} {b : Nat} {t : ByteArray} {R : List UInt8} (h : Gr w b t R) (hb : Below w.heap.size w w') : Gr w' b t R := by
  obtain ⟨n, h1, h2, h3⟩ := h
  exact ⟨n, h1, h2, h3.below hb⟩
theorem Gr.lt {w : World} {b : Nat} {t : ByteArray} {R : List UInt8} (h : Gr w b t R) : b < w.heap.size := by
  obtain ⟨n, h1, h2, h3⟩ := h
  exact h3.lt
theorem Gr.sz {w : World} {b : Nat} {t : ByteArray} {R : List UInt8} (h : Gr w b t R) : R.length ≤ t.size := by
  obtain ⟨n, h1, h2, h3⟩ := h
  have hl : t.data.toList.length = t.size := by simp
  rw [← h2, List.length_drop, hl]
  omega
section
variable {w : World} {b : Nat} {t : ByteArray} {Y : List UInt8}
set_option maxRecDepth 10000
set_option maxHeartbeats 4000000
theorem text_on (x : ByteArray) (most : Nat) (hx : x.size ≤ 4096) (hm : x.size ≤ most) (h : Gr w b t (rawL x ++ Y)) (hs : t.size ≤ maxLen) : Calls Tryz.prog 112 #[pv b t, .int .u64 (most : Int)] w fun e w' => e = .returned (.string x) ∧ Gr w' b t Y ∧ Rfr b w w' := by
  have hlt := h.lt
  have r1 := heap_alloc_last w (.cells #[.pointer (some ⟨b, 0, none⟩), .string t] 85)
  have b1 := (Below.refl w.heap.size w).alloc (Nat.le_refl _) (.cells #[.pointer (some ⟨b, 0, none⟩), .string t] 85)
  have h0 := h.below b1
  have F1 := hide (Rfr.below (b := b) b1)
  unfold rawL at h0
  rw [List.append_assoc] at h0
  unfold pv
  generalize hA : w.alloc (.cells #[.pointer (some ⟨b, 0, none⟩), .string t] 85) = A at *
  have CC : Hid (∀ W, Rfr b A W → W.cell? ⟨w.heap.size, 0, none⟩ = some (.pointer (some ⟨b, 0, none⟩)) ∧ W.cell? ⟨w.heap.size, 1, none⟩ = some (.string t)) := fun W f => by
    have hW := (f.block _ (lt_heap r1) (by omega)).trans r1
    exact ⟨by rw [cell_of_row _ _ _ _ _ _ hW]; rfl, by rw [cell_of_row _ _ _ _ _ _ hW]; rfl⟩
  have G0 : Hid (Gr A.drew b t (countL x.size ++ (x.data.toList ++ Y))) := h0
  have HC : Hid (∀ W, Gr W b t (countL x.size ++ (x.data.toList ++ Y)) → Calls Tryz.prog 115 #[.pointer (some ⟨b, 0, none⟩), .int .u64 (most : Int)] W fun e w' => e = .returned (.int .u64 (x.size : Int)) ∧ Gr w' b t (x.data.toList ++ Y) ∧ Rfr b W w') := fun W g => g.count x.size most (by omega) hm hs
  have HB : Hid (∀ W, Gr W b t (x.data.toList ++ Y) → Calls Tryz.prog 87 #[.pointer (some ⟨b, 0, none⟩), .int .i64 (x.size : Int)] W fun e w' => e = .returned (.string x) ∧ Gr w' b t Y ∧ Rfr b W w') := fun W g => by
    have hl : x.data.toList.length = x.size := by simp
    have := g.bytes x.data.toList hs (by omega)
    rw [hl] at this
    exact this
  have e1 : IntKind.i64.wrap (x.size : Int) = (x.size : Int) := wrapI _ (by omega) (by omega)
  clear hx hm h hs hlt r1 b1 h0
  go_enter Tryz.func112, Tryz.ntmps112
  go_upto_region 1 with fail
  clear hA
  have BD := hide (Rfr.drew b A)
  refine wp_region_held_drew (S := fun W => Rfr b A W) (by kernel_rfl) BD.out (fun hH => ?_)
  generalize hWd : A.drew = W1 at *
  clear hWd
  refine wpAnyH_take (i := 0) (v := (.pointer (some ⟨w.heap.size, 0, none⟩))) rfl (by kernel_rfl) (by kernel_rfl) (by kernel_rfl) (fun _ _ _ h => h) (.inl ⟨by rfl, fun W _ => by go_simp⟩) hH ?_
  change wpAnyH _ _ _ _ _ _ _ (Act.put _ (some 5) _) _
  simp only [Act.put, List.setIfInBounds_toArray, List.set_cons_zero, List.set_cons_succ]
  refine wpAnyH_take (i := 1) (v := (.pointer (some ⟨b, 0, none⟩))) rfl (by kernel_rfl) (by kernel_rfl) (by kernel_rfl) (fun _ _ _ h => h) (.inl ⟨by rfl, fun W hS => by have c4 := (CC.out W hS).1; go_simp⟩) hH ?_
  change wpAnyH _ _ _ _ _ _ _ (Act.put _ (some 6) _) _
  simp only [Act.put, List.setIfInBounds_toArray, List.set_cons_zero, List.set_cons_succ]
  refine wpAnyH_take (i := 2) (v := (.pointer (some ⟨w.heap.size, 0, none⟩))) rfl (by kernel_rfl) (by kernel_rfl) (by kernel_rfl) (fun _ _ _ h => h) (.inl ⟨by rfl, fun W _ => by go_simp⟩) hH ?_
  change wpAnyH _ _ _ _ _ _ _ (Act.put _ (some 7) _) _
  simp only [Act.put, List.setIfInBounds_toArray, List.set_cons_zero, List.set_cons_succ]
  refine wpAnyH_take (i := 3) (v := (.pointer (some ⟨b, 0, none⟩))) rfl (by kernel_rfl) (by kernel_rfl) (by kernel_rfl) (fun _ _ _ h => h) (.inl ⟨by rfl, fun W hS => by have c4 := (CC.out W hS).1; go_simp⟩) hH ?_
  change wpAnyH _ _ _ _ _ _ _ (Act.put _ (some 8) _) _
  simp only [Act.put, List.setIfInBounds_toArray, List.set_cons_zero, List.set_cons_succ]
  refine wpAnyH_take (i := 4) (v := (.int .u64 (most : Int))) rfl (by kernel_rfl) (by kernel_rfl) (by kernel_rfl) (fun _ _ _ h => h) (yl_move (by rfl) _ (by rfl) _ (by rfl)) hH ?_
  change wpAnyH _ _ _ _ _ _ _ (Act.put _ (some 9) _) _
  simp only [Act.put, List.setIfInBounds_toArray, List.set_cons_zero, List.set_cons_succ]
  refine wpAnyH_ready (rs := [5]) (by kernel_rfl) (by simp) (AllReadyH.cons rfl (fun K1 hK1 => ?_) AllReadyH.nil)
  go_simp
  with_reducible refine (HC.out W1 G0.out).mono ?_
  rintro e W2 ⟨rfl, g1, f1⟩
  have G2 := hide g1
  have F2 := hide (Rfr.trans BD.out f1)
  clear g1 f1
  refine hK1.out _ _ F2.out (fun hH => ?_)
  clear hK1
  refine wpAnyH_take (i := 6) (v := (.int .i64 (x.size : Int))) rfl (by kernel_rfl) (by kernel_rfl) (by kernel_rfl) (fun _ _ _ h => h) (.inl ⟨by rfl, fun W _ => by go_simp⟩) hH ?_
  change wpAnyH _ _ _ _ _ _ _ (Act.put _ (some 11) _) _
  simp only [Act.put, List.setIfInBounds_toArray, List.set_cons_zero, List.set_cons_succ]
  refine wpAnyH_ready (rs := [7]) (by kernel_rfl) (by simp) (AllReadyH.cons rfl (fun K1 hK1 => ?_) AllReadyH.nil)
  go_simp
  with_reducible refine (HB.out W2 G2.out).mono ?_
  rintro e W3 ⟨rfl, g1, f1⟩
  have G3 := hide g1
  have F3 := hide (Rfr.trans F2.out f1)
  clear g1 f1
  refine hK1.out _ _ F3.out (fun hH => ?_)
  clear hK1
  refine wpAnyH_ready (rs := [8]) (by kernel_rfl) (by simp) (AllReadyH.cons rfl (fun K1 hK1 => ?_) AllReadyH.nil)
  go_simp
  refine hK1.out _ _ F3.out (fun hH => ?_)
  clear hK1
  refine wpAnyH_done (by kernel_rfl) ?_ _
  clear hH HC HB CC
  go_wp2
  go_ret
  exact ⟨rfl, G3.out, F1.out.trans F3.out⟩
end
end Go.Proofs.YtkoidjaaojmcnaaGreat
namespace Go.Proofs.YtkoidjaaojmcnaaGreat
open Go.RowKit
open Go.Deep
theorem cmd5 : cmd 5 = cmdN 5 := rfl
section
set_option maxRecDepth 10000
set_option maxHeartbeats 4000000
theorem encode_ping (n : UInt64) (w : World) : Calls Tryz.prog 4 #[.agg ((bareM 5 n).cells nil8).toArray] w fun e w' => e = .returned (.tuple #[.string (txt (lowL n.toNat 8)), .int .i64 0]) ∧ Below w.heap.size w w' := by
  have r1 := heap_alloc_last w (.cells ((bareM 5 n).cells nil8).toArray 38)
  have B1 := hide ((Below.refl w.heap.size w).alloc (Nat.le_refl _) (.cells ((bareM 5 n).cells nil8).toArray 38))
  have c0 : (w.alloc (.cells ((bareM 5 n).cells nil8).toArray 38)).cell? ⟨w.heap.size, 0, none⟩ = some (.int .i64 5) := (Mc.of (m := bareM 5 n) (s := nil8) r1).f0
  have R1 := hide r1
  have HZ := hide ((bareM 5 n).size nil8)
  have HC := hide (command_any 5 (w.alloc (.cells ((bareM 5 n).cells nil8).toArray 38)))
  have HM := hide (fun W => hasMore_5 (bareM 5 n) nil8 rfl W)
  have HF := hide (fun W => wellFormed_5 (bareM 5 n) nil8 rfl W)
  have HN : Hid (∀ W, Calls Tryz.prog 16 #[.agg ((bareM 5 n).cells nil8).toArray] W fun e w' => e = .returned (.agg ((bareM 5 0).cells nil8).toArray) ∧ Below W.heap.size W w') := fun W => unnamed_5 (bareM 5 n) nil8 nil8_ok rfl W
  have HB := hide (fun W => bare_any 5 W)
  have HS : Hid (∀ W, Calls Tryz.prog 10 #[.agg ((bareM 5 0).cells nil8).toArray, .agg ((bareM 5 0).cells nil8).toArray] W fun e w' => e = .returned (.bool true) ∧ Below W.heap.size W w') := fun W => by
    have := same_any (bareM 5 0) (bareM 5 0) nil8 nil8 W (bare_ML 5 0 W) (bare_ML 5 0 W) ⟨by decide, by decide, by decide, by decide, by decide, by decide, by decide, by decide⟩
    rwa [decide_eq_true rfl] at this
  have HP : Hid (∀ {B W : World} {b : Nat}, Wb B W b [] → Calls Tryz.prog 19 #[.pointer (some ⟨b, 0, none⟩), .agg ((bareM 5 n).cells nil8).toArray] W fun e w' => e = .returned (.tuple #[]) ∧ Wb B w' b (lowL n.toNat 8)) := fun h => put_5 (bareM 5 n) nil8 rfl h
  have hL : ((lowL n.toNat 8).length : Int) = 8 := by rw [lowL_len]; rfl
  rw [cmd5] at HC
  have hp : (cmdN 5).toList.isEmpty = false := by decide +kernel
  clear r1
  have HC0 : Hid (((bareM 5 n).cells nil8).toArray[0]? = some (.int .i64 5)) := rfl
  generalize ((bareM 5 n).cells nil8).toArray = C at *
  generalize ((bareM 5 0).cells nil8).toArray = D at *
  generalize cmdN 5 = cm at *
  generalize lowL n.toNat 8 = L at *
  go_enter Tryz.func4, Tryz.ntmps4
  go_upto_region 5 with (first | (go_at_call 13; refine HC.out.mono ?_; rintro e w1 ⟨rfl, rfl⟩) | (go_at_call 14; refine (HM.out _).mono ?_; rintro e W0 ⟨rfl, be⟩; have B0 := hide (below_next B1.out be); have R0 := hide ((be.block _ (lt_heap R1.out)).trans R1.out); clear be) | (with_reducible refine at_list ?_; first | refine wpList_boxA rfl _ rfl C rfl ?_ | refine wpList_loadS AM _ rfl w.heap.size rfl C HZ.out 38 R1.out rfl ?_))
  clear HC hp c0 B1 R1 HM
  have LD : Hid (∀ W, Below W0.heap.size W0 W → W.heap[w.heap.size]? = some (.cells C 38 (0, 0))) := fun W b => (b.block _ (lt_heap R0.out)).trans R0.out
  have C0 : Hid (∀ W, Below W0.heap.size W0 W → W.cell? ⟨w.heap.size, 0, none⟩ = some (.int .i64 5)) := fun W b => by rw [cell_of_row _ _ _ _ _ _ (LD.out W b)]; exact HC0.out
  have BD := hide ((Below.refl W0.heap.size W0).drew)
  refine wp_region_held_drew (S := fun W => Below W0.heap.size W0 W) (by kernel_rfl) BD.out (fun hH => ?_)
  generalize hWd : W0.drew = W1 at *
  clear hWd
  refine wpAnyH_take (i := 0) (v := (.agg C)) rfl (by kernel_rfl) (by kernel_rfl) (by kernel_rfl) (fun _ _ _ h => h) (yl_load (by rfl) _ (by rfl) _ C (by rfl) (fun W hS => ld_row AM HZ.out (LD.out W hS))) hH ?_
  change wpAnyH _ _ _ _ _ _ _ (Act.put _ (some 11) _) _
  simp only [Act.put, List.setIfInBounds_toArray, List.set_cons_zero, List.set_cons_succ]
  refine wpAnyH_ready (rs := [1]) (by kernel_rfl) (by simp) (AllReadyH.cons rfl (fun K1 hK1 => ?_) AllReadyH.nil)
  go_simp
  refine (HF.out W1).mono ?_
  rintro e W2 ⟨rfl, be⟩
  have B2 := hide (below_next BD.out be)
  clear be
  refine hK1.out _ _ B2.out (fun hH => ?_)
  clear hK1
  refine wpAnyH_take (i := 2) (v := (.bool false)) rfl (by kernel_rfl) (by kernel_rfl) (by kernel_rfl) (fun _ _ _ h => h) (.inl ⟨by rfl, fun W _ => by go_simp⟩) hH ?_
  change wpAnyH _ _ _ _ _ _ _ (Act.put _ (some 13) _) _
  simp only [Act.put, List.setIfInBounds_toArray, List.set_cons_zero, List.set_cons_succ]
  refine wpAnyH_take (i := 3) (v := (.bool false)) rfl (by kernel_rfl) (by kernel_rfl) (by kernel_rfl) (fun _ _ _ h => h) (yl_move (by rfl) _ (by rfl) _ (by rfl)) hH ?_
  change wpAnyH _ _ _ _ _ _ _ (Act.put _ (some 14) _) _
  simp only [Act.put, List.setIfInBounds_toArray, List.set_cons_zero, List.set_cons_succ]
  refine wpAnyH_take (i := 4) (v := (.agg C)) rfl (by kernel_rfl) (by kernel_rfl) (by kernel_rfl) (fun _ _ _ h => h) (yl_load (by rfl) _ (by rfl) _ C (by rfl) (fun W hS => ld_row AM HZ.out (LD.out W hS))) hH ?_
  change wpAnyH _ _ _ _ _ _ _ (Act.put _ (some 15) _) _
  simp only [Act.put, List.setIfInBounds_toArray, List.set_cons_zero, List.set_cons_succ]
  refine wpAnyH_take (i := 6) (v := (.pointer (some ⟨w.heap.size, 0, none⟩))) rfl (by kernel_rfl) (by kernel_rfl) (by kernel_rfl) (fun _ _ _ h => h) (.inl ⟨by rfl, fun W _ => by go_simp⟩) hH ?_
  change wpAnyH _ _ _ _ _ _ _ (Act.put _ (some 17) _) _
  simp only [Act.put, List.setIfInBounds_toArray, List.set_cons_zero, List.set_cons_succ]
  refine wpAnyH_take (i := 7) (v := (.int .i64 5)) rfl (by kernel_rfl) (by kernel_rfl) (by kernel_rfl) (fun _ _ _ h => h) (.inl ⟨by rfl, fun W hS => by have c4 := C0.out W hS; go_simp⟩) hH ?_
  change wpAnyH _ _ _ _ _ _ _ (Act.put _ (some 18) _) _
  simp only [Act.put, List.setIfInBounds_toArray, List.set_cons_zero, List.set_cons_succ]
  refine wpAnyH_ready (rs := [5]) (by kernel_rfl) (by simp) (AllReadyH.cons rfl (fun K1 hK1 => ?_) AllReadyH.nil)
  go_simp
  refine (HN.out W2).mono ?_
  rintro e W3 ⟨rfl, be⟩
  have B3 := hide (below_next B2.out be)
  clear be
  refine hK1.out _ _ B3.out (fun hH => ?_)
  clear hK1
  refine wpAnyH_ready (rs := [8]) (by kernel_rfl) (by simp) (AllReadyH.cons rfl (fun K1 hK1 => ?_) AllReadyH.nil)
  go_simp
  refine (HB.out W3).mono ?_
  rintro e W4 ⟨rfl, be⟩
  have B4 := hide (below_next B3.out be)
  clear be
  refine hK1.out _ _ B4.out (fun hH => ?_)
  clear hK1
  refine wpAnyH_ready (rs := [9]) (by kernel_rfl) (by simp) (AllReadyH.cons rfl (fun K1 hK1 => ?_) AllReadyH.nil)
  go_simp
  refine (HS.out W4).mono ?_
  rintro e W5 ⟨rfl, be⟩
  have B5 := hide (below_next B4.out be)
  clear be
  refine hK1.out _ _ B5.out (fun hH => ?_)
  clear hK1
  refine wpAnyH_take (i := 10) (v := (.bool false)) rfl (by kernel_rfl) (by kernel_rfl) (by kernel_rfl) (fun _ _ _ h => h) (.inl ⟨by rfl, fun W _ => by go_simp⟩) hH ?_
  change wpAnyH _ _ _ _ _ _ _ (Act.put _ (some 21) _) _
  simp only [Act.put, List.setIfInBounds_toArray, List.set_cons_zero, List.set_cons_succ]
  refine wpAnyH_take (i := 11) (v := (.bool false)) rfl (by kernel_rfl) (by kernel_rfl) (by kernel_rfl) (fun _ _ _ h => h) (.inl ⟨by rfl, fun W _ => by go_simp⟩) hH ?_
  change wpAnyH _ _ _ _ _ _ _ (Act.put _ (some 22) _) _
  simp only [Act.put, List.setIfInBounds_toArray, List.set_cons_zero, List.set_cons_succ]
  refine wpAnyH_done (by kernel_rfl) ?_ _
  have R5 := hide (LD.out W5 B5.out)
  have Z5 := hide (below_next B0.out B5.out)
  clear hH BD B2 B3 B4 B5 B0 R0 LD C0 HF HN HB HS
  have J := hide (Wb.new W5)
  have R6 := hide ((Below.heap_alloc _ (.cells #[.slice none 0 0] 97) _ (lt_heap R5.out)).trans R5.out)
  go_wp2_with (first | (go_at_call 18; refine (newWriter_any _).mono ?_; rintro e w1 ⟨rfl, rfl⟩) | (go_at_call 19; refine (HP.out J.out).mono ?_; rintro e W7 ⟨rfl, J7⟩) | (go_at_call 20; refine (wLen _ _ _ J7.st).mono ?_; rintro e w8 ⟨rfl, rfl⟩; rw [hL]) | (go_at_call 21; refine (wText _ _ _ J7.st).mono ?_; rintro e w9 ⟨rfl, rfl⟩) | (with_reducible refine at_list ?_; refine wpList_loadS AM _ rfl w.heap.size rfl C HZ.out 38 R6.out rfl ?_))
  go_ret2
  exact ⟨rfl, below_next Z5.out J7.bel⟩
end
end Go.Proofs.YtkoidjaaojmcnaaGreat
