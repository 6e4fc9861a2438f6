/- The document's Bytes: its contract. -/
import Derived.Test.YtofddbjnncgmlabGreatDoorX20
import Derived.Test.YtofddbjnncgmlabGreatDoorX21
namespace Go.Proofs.YtofddbjnncgmlabGreatDoor
open Go.RowKit
open Go.Deep
set_option linter.unusedVariables false
theorem zAr' : Arr 98 35 zTi.cells.toArray := ⟨.inr ⟨_, Tryz.underlying98⟩, by kernel_rfl, fun w => by kernel_rfl, fun w => by kernel_rfl, by rw [List.size_toArray, Ti.len]⟩
theorem zOr' : Arr 99 2 zTu.cells.toArray := ⟨.inr ⟨_, Tryz.underlying99⟩, by kernel_rfl, fun w => by kernel_rfl, fun w => by kernel_rfl, rfl⟩
theorem txt_key (x : ByteArray) : txt x.data.toList = x := rfl
section
set_option maxRecDepth 10000
set_option maxHeartbeats 4000000
theorem tbytesR_any (m : Tm) (ai : Option Addr) (ci : Nat) (ao : Option Addr) (co : Nat) (w : World) (hl : LR w m ai ci ao co) (hf : m.fit) (hN : m.bytes.length ≤ 9223372036854775807) : Calls Tryz.prog 67 #[.agg (m.cells ai ci ao co)] w fun e w' => e = .returned (.string (txt m.bytes)) ∧ Below w.heap.size w w' := by
  have b1 := (Below.refl w.heap.size w).alloc (Nat.le_refl _) (.cells (m.cells ai ci ao co) 43)
  have r1 := heap_alloc_last w (.cells (m.cells ai ci ao co) 43)
  have CC : Hid (∀ W, Below (w.alloc (.cells (m.cells ai ci ao co) 43)).heap.size (w.alloc (.cells (m.cells ai ci ao co) 43)) W → (W.cell? ⟨w.heap.size, 0, none⟩ = some (.int .u32 (m.ver.toNat : Int)) ∧ W.cell? ⟨w.heap.size, 1, none⟩ = some (.slice ai m.ins.length ci)) ∧ (W.cell? ⟨w.heap.size, 2, none⟩ = some (.slice ao m.outs.length co) ∧ W.cell? ⟨w.heap.size, 3, none⟩ = some (.int .u32 (m.time.toNat : Int)))) := fun W b => by
    have q := (b.block _ (lt_heap r1)).trans r1
    refine ⟨⟨?_, ?_⟩, ?_, ?_⟩ <;> (rw [cell_of_row _ _ _ _ _ _ q]; rfl)
  have HL := hide (hl.below b1)
  have HF := hide hf
  have HN := hide hN
  have B1 := hide b1
  have HY : Hid (∀ (n k : Nat) (K : Int), K = k → k ≤ 8 → U64 n → ∀ W, Calls Tryz.prog 106 #[.int .u64 n, .int .i64 K] W fun e w' => e = .returned (.string (txt (lowL n k))) ∧ Below W.heap.size W w') := fun n k K e hk hn W => lay_any n k K e hn W hk
  have HC : Hid (∀ n : Nat, U64 n → ∀ W, Calls Tryz.prog 107 #[.int .u64 n] W fun e w' => e = .returned (.string (txt (countL n))) ∧ Below W.heap.size W w') := fun n hn W => countR_any n hn W
  clear b1 r1 hl hf hN
  generalize m.cells ai ci ao co = C at *
  have hv := m.ver.toNat_lt
  have hfi := HF.out.i
  have hfo := HF.out.o
  have e1 : IntKind.u64.wrap (m.ver.toNat : Int) = (m.ver.toNat : Int) := wrapu _ (by omega) (by omega)
  have e2 : IntKind.u64.wrap (m.ins.length : Int) = (m.ins.length : Int) := wrapu _ (by omega) (by omega)
  have UV : Hid (U64 m.ver.toNat ∧ U64 m.ins.length ∧ U64 m.outs.length) := ⟨by unfold U64; omega, by unfold U64; omega, by unfold U64; omega⟩
  clear hv hfi hfo
  go_enter Tryz.func67, Tryz.ntmps67
  go_upto_region 1 with ((with_reducible refine at_list ?_); refine wpList_boxA rfl _ rfl C rfl ?_)
  generalize w.alloc (.cells C 43) = W0 at *
  have DV1 := hide ((Below.refl W0.heap.size W0).drew)
  refine wp_region_held_drew (S := fun W => Below W0.heap.size W0 W) (by kernel_rfl) DV1.out (fun hH => ?_)
  generalize hWd : W0.drew = V1 at *
  clear hWd
  refine wpAnyH_take (i := 0) (v := (.pointer (some ⟨w.heap.size, 0, none⟩))) rfl (by kernel_rfl) (by kernel_rfl) (by kernel_rfl) (fun _ _ _ h => h) (.inl ⟨by rfl, fun W _ => by go_simp⟩) hH ?_
  change wpAnyH _ _ _ _ _ _ _ (Act.put _ (some 8) _) _
  simp only [Act.put, List.setIfInBounds_toArray, List.set_cons_zero, List.set_cons_succ]
  refine wpAnyH_take (i := 1) (v := (.int .u32 (m.ver.toNat : Int))) rfl (by kernel_rfl) (by kernel_rfl) (by kernel_rfl) (fun _ _ _ h => h) (.inl ⟨by rfl, fun W hS => by have c4 := (CC.out W hS).1.1; go_simp⟩) hH ?_
  change wpAnyH _ _ _ _ _ _ _ (Act.put _ (some 9) _) _
  simp only [Act.put, List.setIfInBounds_toArray, List.set_cons_zero, List.set_cons_succ]
  refine wpAnyH_take (i := 2) (v := (.int .u64 (m.ver.toNat : Int))) rfl (by kernel_rfl) (by kernel_rfl) (by kernel_rfl) (fun _ _ _ h => h) (.inl ⟨by rfl, fun W _ => by go_simp⟩) hH ?_
  change wpAnyH _ _ _ _ _ _ _ (Act.put _ (some 10) _) _
  simp only [Act.put, List.setIfInBounds_toArray, List.set_cons_zero, List.set_cons_succ]
  refine wpAnyH_take (i := 4) (v := (.pointer (some ⟨w.heap.size, 1, none⟩))) rfl (by kernel_rfl) (by kernel_rfl) (by kernel_rfl) (fun _ _ _ h => h) (.inl ⟨by rfl, fun W _ => by go_simp⟩) hH ?_
  change wpAnyH _ _ _ _ _ _ _ (Act.put _ (some 12) _) _
  simp only [Act.put, List.setIfInBounds_toArray, List.set_cons_zero, List.set_cons_succ]
  refine wpAnyH_take (i := 5) (v := (.slice ai m.ins.length ci)) rfl (by kernel_rfl) (by kernel_rfl) (by kernel_rfl) (fun _ _ _ h => h) (.inl ⟨by rfl, fun W hS => by have c4 := (CC.out W hS).1.2; go_simp⟩) hH ?_
  change wpAnyH _ _ _ _ _ _ _ (Act.put _ (some 13) _) _
  simp only [Act.put, List.setIfInBounds_toArray, List.set_cons_zero, List.set_cons_succ]
  refine wpAnyH_take (i := 6) (v := (.int .i64 (m.ins.length : Int))) rfl (by kernel_rfl) (by kernel_rfl) (by kernel_rfl) (fun _ _ _ h => h) (.inl ⟨by rfl, fun W _ => by go_simp⟩) hH ?_
  change wpAnyH _ _ _ _ _ _ _ (Act.put _ (some 14) _) _
  simp only [Act.put, List.setIfInBounds_toArray, List.set_cons_zero, List.set_cons_succ]
  refine wpAnyH_take (i := 7) (v := (.int .u64 (m.ins.length : Int))) rfl (by kernel_rfl) (by kernel_rfl) (by kernel_rfl) (fun _ _ _ h => h) (.inl ⟨by rfl, fun W _ => by go_simp⟩) hH ?_
  change wpAnyH _ _ _ _ _ _ _ (Act.put _ (some 15) _) _
  simp only [Act.put, List.setIfInBounds_toArray, List.set_cons_zero, List.set_cons_succ]
  refine wpAnyH_ready (rs := [3]) (by kernel_rfl) (by simp) (AllReadyH.cons rfl (fun K1 hK1 => ?_) AllReadyH.nil)
  go_simp
  refine (HY.out m.ver.toNat 4 4 rfl (by decide) UV.out.1 V1).mono ?_
  rintro r V2 ⟨rfl, be⟩
  have DV2 := hide (below_next DV1.out be)
  clear be
  refine hK1.out _ _ DV2.out (fun hH => ?_)
  clear hK1
  refine wpAnyH_ready (rs := [8]) (by kernel_rfl) (by simp) (AllReadyH.cons rfl (fun K1 hK1 => ?_) AllReadyH.nil)
  go_simp
  refine (HC.out m.ins.length UV.out.2.1 V2).mono ?_
  rintro r V3 ⟨rfl, be⟩
  have DV3 := hide (below_next DV2.out be)
  clear be
  refine hK1.out _ _ DV3.out (fun hH => ?_)
  clear hK1
  have f1 : ¬ 9223372036854775807 < (txt (lowL m.ver.toNat 4)).size + (txt (countL m.ins.length)).size := by
    have h1 := m.pre_le 0
    have h2 := HN.out
    have h3 : (m.pre 0).length = (lowL m.ver.toNat 4).length + (countL m.ins.length).length := by simp [Tm.pre, insL]
    rw [txt_sz, txt_sz]
    omega
  have P0 : Hid (txt (lowL m.ver.toNat 4) ++ txt (countL m.ins.length) = txt (m.pre 0)) := by
    show _ = _
    rw [txt_app]
    simp [Tm.pre, insL]
  refine wpAnyH_take (i := 9) (v := (.string (txt (lowL m.ver.toNat 4) ++ txt (countL m.ins.length)))) rfl (by kernel_rfl) (by kernel_rfl) (by kernel_rfl) (fun _ _ _ h => h) (.inl ⟨by rfl, fun W _ => by go_simp⟩) hH ?_
  change wpAnyH _ _ _ _ _ _ _ (Act.put _ (some 17) _) _
  simp only [Act.put, List.setIfInBounds_toArray, List.set_cons_zero, List.set_cons_succ]
  refine wpAnyH_ready (rs := [10]) (by kernel_rfl) (by simp) (AllReadyH.cons rfl (fun K1 hK1 => ?_) AllReadyH.nil)
  go_simp
  refine hK1.out _ _ DV3.out (fun hH => ?_)
  clear hK1
  refine wpAnyH_done (by kernel_rfl) ?_ _
  clear hH
  rw [P0.out]
  clear f1 P0
  have c1 := (CC.out _ DV3.out).1.2
  go_upto_region 3 with fail
  clear c1 e1 e2
  generalize txt (lowL m.ver.toNat 4) = ta at *
  generalize txt (countL m.ins.length) = tb at *
  go_loopw [3, 21] (fun s i wr => ∃ k : Nat, k ≤ m.ins.length ∧ i = .int .i64 (k : Int) ∧ s = .string (txt (m.pre k)) ∧ Hid (Below W0.heap.size W0 wr)) (fun _ i _ => (m.ins.length - intOf i).toNat)
  case atStart => exact ⟨0, Nat.zero_le _, rfl, rfl, DV3.out⟩
  case round =>
    obtain ⟨k, hk, rfl, rfl, JJ⟩ := hrel
    by_cases hlt : k < m.ins.length
    · have h1 : (k : Int) < (m.ins.length : Int) := by omega
      have h2 : (0 : Int) ≤ (k : Int) := by omega
      have h5 := HF.out.i
      have e1 : IntKind.i64.wrap ((k : Int) + 1) = k + 1 := wrapI _ (by omega) (by omega)
      have KK := hide (And.intro (show k + 1 ≤ m.ins.length by omega) (show ((m.ins.length : Int) - ((k : Int) + 1)).toNat < ((m.ins.length : Int) - (k : Int)).toNat by omega))
      obtain ⟨ga, oa, hga⟩ := HL.out.i.base (by omega)
      subst hga
      have RG : Hid (wr.rangeAt ga (oa + k * 35) m.ins[k].cells) := (HL.out.below JJ.out).i.range k hlt
      have NX := hide (m.pre_next k hlt)
      have PN := hide (Nat.le_trans (m.pre_le (k + 1)) HN.out)
      generalize m.ins[k] = x at *
      clear hk hlt h5
      go_upto_region 5 with ((with_reducible refine at_list ?_); first | refine wpLoadIr _ rfl ga (oa + k * 35) rfl x RG.out (by rfl) ?_ | refine wpList_allocA zAr' rfl rfl ?_ | refine wpList_store_newA zAr' rfl _ _ rfl _ rfl x.cells.toArray x.size x.all rfl rfl ?_)
      have J2 := hide (below_next JJ.out ((Below.refl _ _).alloc (Nat.le_refl _) (.cells x.cells.toArray 98)))
      have RX := hide (heap_alloc_last wr (.cells x.cells.toArray 98))
      clear JJ RG
      generalize wr.alloc (.cells x.cells.toArray 98) = U0 at *
      generalize wr.heap.size = g5 at *
      have XC : Hid (∀ W, Below U0.heap.size U0 W → (W.rangeAt g5 0 (cellsL x.hash) ∧ W.cell? ⟨g5, 32, none⟩ = some (.int .u32 (x.idx.toNat : Int))) ∧ W.cell? ⟨g5, 33, none⟩ = some (.string x.key) ∧ W.cell? ⟨g5, 34, none⟩ = some (.int .u32 (x.seq.toNat : Int))) := fun W b => by
        have q := (b.block _ (lt_heap RX.out)).trans RX.out
        exact ⟨⟨x.hashAt q, by rw [cell_of_row _ _ _ _ _ _ q]; exact x.at32⟩, by rw [cell_of_row _ _ _ _ _ _ q]; exact x.at33, by rw [cell_of_row _ _ _ _ _ _ q]; exact x.at34⟩
      have hLn := congrArg List.length NX.out
      have hPn := PN.out
      simp only [List.length_append] at hLn
      have hkz : x.key.data.toList.length = x.key.size := by simp
      have hix := x.idx.toNat_lt
      have hsx := x.seq.toNat_lt
      have w1 : IntKind.u64.wrap (x.idx.toNat : Int) = (x.idx.toNat : Int) := wrapu _ (by omega) (by omega)
      have w2 : IntKind.u64.wrap (x.seq.toNat : Int) = (x.seq.toNat : Int) := wrapu _ (by omega) (by omega)
      have w3 : IntKind.u64.wrap (x.key.size : Int) = (x.key.size : Int) := wrapu _ (by omega) (by omega)
      have UX : Hid (U64 x.idx.toNat ∧ U64 x.seq.toNat ∧ U64 x.key.size) := ⟨by unfold U64; omega, by unfold U64; omega, by unfold U64; omega⟩
      have z0 : (txt (m.pre k)).size = (m.pre k).length := txt_sz _
      have z1 : (txt x.hash).size = x.hash.length := txt_sz _
      have z2 : (txt (lowL x.idx.toNat 4)).size = (lowL x.idx.toNat 4).length := txt_sz _
      have z3 : (txt (countL x.key.size)).size = (countL x.key.size).length := txt_sz _
      have z5 : (txt (lowL x.seq.toNat 4)).size = (lowL x.seq.toNat 4).length := txt_sz _
      have f1 : ¬ 9223372036854775807 < (txt x.hash).size + (txt (lowL x.idx.toNat 4)).size := by omega
      have f2 : ¬ 9223372036854775807 < (txt x.hash).size + (txt (lowL x.idx.toNat 4)).size + (txt (countL x.key.size)).size := by omega
      have f3 : ¬ 9223372036854775807 < (txt x.hash).size + (txt (lowL x.idx.toNat 4)).size + (txt (countL x.key.size)).size + x.key.size := by omega
      have f4 : ¬ 9223372036854775807 < (txt x.hash).size + (txt (lowL x.idx.toNat 4)).size + (txt (countL x.key.size)).size + x.key.size + (txt (lowL x.seq.toNat 4)).size := by omega
      have f5 : ¬ 9223372036854775807 < (txt (m.pre k)).size + ((txt x.hash).size + (txt (lowL x.idx.toNat 4)).size + (txt (countL x.key.size)).size + x.key.size + (txt (lowL x.seq.toNat 4)).size) := by omega
      have FIN : Hid (txt (m.pre k) ++ (txt x.hash ++ txt (lowL x.idx.toNat 4) ++ txt (countL x.key.size) ++ x.key ++ txt (lowL x.seq.toNat 4)) = txt (m.pre (k + 1))) := by
        show _ = _
        rw [← NX.out]
        apply ByteArray.ext
        simp [txt]
      have HL1 := hide (HY.out x.idx.toNat 4 4 rfl (by decide) UX.out.1)
      have HL2 := hide (HY.out x.seq.toNat 4 4 rfl (by decide) UX.out.2.1)
      have HC1 := hide (HC.out x.key.size UX.out.2.2)
      have XH := hide x.hh
      clear hLn hPn hkz hix hsx z0 z1 z2 z3 z5 NX PN UX RX
      have CV : Hid (∀ W, Below U0.heap.size U0 W → (convert 155 9 (.slice (some ⟨g5, 0, none⟩) 32 32)).run Tryz.prog W = .ok (.string (txt x.hash)) W) := fun W b => conv_mid W g5 0 x.hash (XC.out W b).1.1 32 XH.out.symm
      generalize txt x.hash = t1 at *
      generalize txt (lowL x.idx.toNat 4) = t2 at *
      generalize txt (countL x.key.size) = t3 at *
      generalize txt (lowL x.seq.toNat 4) = t5 at *
      generalize txt (m.pre k) = t0 at *
      have DU1 := hide ((Below.refl U0.heap.size U0).drew)
      refine wp_region_held_drew (S := fun W => Below U0.heap.size U0 W) (by kernel_rfl) DU1.out (fun hH => ?_)
      generalize hWd : U0.drew = U1 at *
      clear hWd
      refine wpAnyH_take (i := 0) (v := (.string t0)) rfl (by kernel_rfl) (by kernel_rfl) (by kernel_rfl) (fun _ _ _ h => h) (yl_move (by rfl) _ (by rfl) _ (by rfl)) hH ?_
      change wpAnyH _ _ _ _ _ _ _ (Act.put _ (some 25) _) _
      simp only [Act.put, List.setIfInBounds_toArray, List.set_cons_zero, List.set_cons_succ]
      refine wpAnyH_take (i := 1) (v := (.pointer (some ⟨g5, 0, none⟩))) rfl (by kernel_rfl) (by kernel_rfl) (by kernel_rfl) (fun _ _ _ h => h) (.inl ⟨by rfl, fun W _ => by go_simp⟩) hH ?_
      change wpAnyH _ _ _ _ _ _ _ (Act.put _ (some 26) _) _
      simp only [Act.put, List.setIfInBounds_toArray, List.set_cons_zero, List.set_cons_succ]
      refine wpAnyH_take (i := 2) (v := (.slice (some ⟨g5, 0, none⟩) 32 32)) rfl (by kernel_rfl) (by kernel_rfl) (by kernel_rfl) (fun _ _ _ h => h) (.inl ⟨by rfl, fun W _ => by go_simp⟩) hH ?_
      change wpAnyH _ _ _ _ _ _ _ (Act.put _ (some 27) _) _
      simp only [Act.put, List.setIfInBounds_toArray, List.set_cons_zero, List.set_cons_succ]
      refine wpAnyH_take (i := 3) (v := (.string t1)) rfl (by kernel_rfl) (by kernel_rfl) (by kernel_rfl) (fun _ _ _ h => h) (.inl ⟨by rfl, fun W hS => by have c4 := CV.out W hS; go_simp⟩) hH ?_
      change wpAnyH _ _ _ _ _ _ _ (Act.put _ (some 28) _) _
      simp only [Act.put, List.setIfInBounds_toArray, List.set_cons_zero, List.set_cons_succ]
      refine wpAnyH_take (i := 4) (v := (.pointer (some ⟨g5, 32, none⟩))) rfl (by kernel_rfl) (by kernel_rfl) (by kernel_rfl) (fun _ _ _ h => h) (.inl ⟨by rfl, fun W _ => by go_simp⟩) hH ?_
      change wpAnyH _ _ _ _ _ _ _ (Act.put _ (some 29) _) _
      simp only [Act.put, List.setIfInBounds_toArray, List.set_cons_zero, List.set_cons_succ]
      refine wpAnyH_take (i := 5) (v := (.int .u32 (x.idx.toNat : Int))) rfl (by kernel_rfl) (by kernel_rfl) (by kernel_rfl) (fun _ _ _ h => h) (.inl ⟨by rfl, fun W hS => by have c4 := (XC.out W hS).1.2; go_simp⟩) hH ?_
      change wpAnyH _ _ _ _ _ _ _ (Act.put _ (some 30) _) _
      simp only [Act.put, List.setIfInBounds_toArray, List.set_cons_zero, List.set_cons_succ]
      refine wpAnyH_take (i := 6) (v := (.int .u64 (x.idx.toNat : Int))) rfl (by kernel_rfl) (by kernel_rfl) (by kernel_rfl) (fun _ _ _ h => h) (.inl ⟨by rfl, fun W _ => by go_simp⟩) hH ?_
      change wpAnyH _ _ _ _ _ _ _ (Act.put _ (some 31) _) _
      simp only [Act.put, List.setIfInBounds_toArray, List.set_cons_zero, List.set_cons_succ]
      refine wpAnyH_take (i := 9) (v := (.pointer (some ⟨g5, 33, none⟩))) rfl (by kernel_rfl) (by kernel_rfl) (by kernel_rfl) (fun _ _ _ h => h) (.inl ⟨by rfl, fun W _ => by go_simp⟩) hH ?_
      change wpAnyH _ _ _ _ _ _ _ (Act.put _ (some 34) _) _
      simp only [Act.put, List.setIfInBounds_toArray, List.set_cons_zero, List.set_cons_succ]
      refine wpAnyH_take (i := 10) (v := (.string x.key)) rfl (by kernel_rfl) (by kernel_rfl) (by kernel_rfl) (fun _ _ _ h => h) (.inl ⟨by rfl, fun W hS => by have c4 := (XC.out W hS).2.1; go_simp⟩) hH ?_
      change wpAnyH _ _ _ _ _ _ _ (Act.put _ (some 35) _) _
      simp only [Act.put, List.setIfInBounds_toArray, List.set_cons_zero, List.set_cons_succ]
      refine wpAnyH_take (i := 11) (v := (.int .i64 (x.key.size : Int))) rfl (by kernel_rfl) (by kernel_rfl) (by kernel_rfl) (fun _ _ _ h => h) (.inl ⟨by rfl, fun W _ => by go_simp⟩) hH ?_
      change wpAnyH _ _ _ _ _ _ _ (Act.put _ (some 36) _) _
      simp only [Act.put, List.setIfInBounds_toArray, List.set_cons_zero, List.set_cons_succ]
      refine wpAnyH_take (i := 12) (v := (.int .u64 (x.key.size : Int))) rfl (by kernel_rfl) (by kernel_rfl) (by kernel_rfl) (fun _ _ _ h => h) (.inl ⟨by rfl, fun W _ => by go_simp⟩) hH ?_
      change wpAnyH _ _ _ _ _ _ _ (Act.put _ (some 37) _) _
      simp only [Act.put, List.setIfInBounds_toArray, List.set_cons_zero, List.set_cons_succ]
      refine wpAnyH_take (i := 15) (v := (.pointer (some ⟨g5, 33, none⟩))) rfl (by kernel_rfl) (by kernel_rfl) (by kernel_rfl) (fun _ _ _ h => h) (.inl ⟨by rfl, fun W _ => by go_simp⟩) hH ?_
      change wpAnyH _ _ _ _ _ _ _ (Act.put _ (some 40) _) _
      simp only [Act.put, List.setIfInBounds_toArray, List.set_cons_zero, List.set_cons_succ]
      refine wpAnyH_take (i := 16) (v := (.string x.key)) rfl (by kernel_rfl) (by kernel_rfl) (by kernel_rfl) (fun _ _ _ h => h) (.inl ⟨by rfl, fun W hS => by have c4 := (XC.out W hS).2.1; go_simp⟩) hH ?_
      change wpAnyH _ _ _ _ _ _ _ (Act.put _ (some 41) _) _
      simp only [Act.put, List.setIfInBounds_toArray, List.set_cons_zero, List.set_cons_succ]
      refine wpAnyH_take (i := 18) (v := (.pointer (some ⟨g5, 34, none⟩))) rfl (by kernel_rfl) (by kernel_rfl) (by kernel_rfl) (fun _ _ _ h => h) (.inl ⟨by rfl, fun W _ => by go_simp⟩) hH ?_
      change wpAnyH _ _ _ _ _ _ _ (Act.put _ (some 43) _) _
      simp only [Act.put, List.setIfInBounds_toArray, List.set_cons_zero, List.set_cons_succ]
      refine wpAnyH_take (i := 19) (v := (.int .u32 (x.seq.toNat : Int))) rfl (by kernel_rfl) (by kernel_rfl) (by kernel_rfl) (fun _ _ _ h => h) (.inl ⟨by rfl, fun W hS => by have c4 := (XC.out W hS).2.2; go_simp⟩) hH ?_
      change wpAnyH _ _ _ _ _ _ _ (Act.put _ (some 44) _) _
      simp only [Act.put, List.setIfInBounds_toArray, List.set_cons_zero, List.set_cons_succ]
      refine wpAnyH_take (i := 20) (v := (.int .u64 (x.seq.toNat : Int))) rfl (by kernel_rfl) (by kernel_rfl) (by kernel_rfl) (fun _ _ _ h => h) (.inl ⟨by rfl, fun W _ => by go_simp⟩) hH ?_
      change wpAnyH _ _ _ _ _ _ _ (Act.put _ (some 45) _) _
      simp only [Act.put, List.setIfInBounds_toArray, List.set_cons_zero, List.set_cons_succ]
      refine wpAnyH_ready (rs := [7]) (by kernel_rfl) (by simp) (AllReadyH.cons rfl (fun K1 hK1 => ?_) AllReadyH.nil)
      go_simp
      refine (HL1.out U1).mono ?_
      rintro r U2 ⟨rfl, be⟩
      have DU2 := hide (below_next DU1.out be)
      clear be
      refine hK1.out _ _ DU2.out (fun hH => ?_)
      clear hK1
      refine wpAnyH_take (i := 8) (v := (.string (t1 ++ t2))) rfl (by kernel_rfl) (by kernel_rfl) (by kernel_rfl) (fun _ _ _ h => h) (.inl ⟨by rfl, fun W _ => by go_simp⟩) hH ?_
      change wpAnyH _ _ _ _ _ _ _ (Act.put _ (some 33) _) _
      simp only [Act.put, List.setIfInBounds_toArray, List.set_cons_zero, List.set_cons_succ]
      refine wpAnyH_ready (rs := [13]) (by kernel_rfl) (by simp) (AllReadyH.cons rfl (fun K1 hK1 => ?_) AllReadyH.nil)
      go_simp
      refine (HC1.out U2).mono ?_
      rintro r U3 ⟨rfl, be⟩
      have DU3 := hide (below_next DU2.out be)
      clear be
      refine hK1.out _ _ DU3.out (fun hH => ?_)
      clear hK1
      refine wpAnyH_take (i := 14) (v := (.string (t1 ++ t2 ++ t3))) rfl (by kernel_rfl) (by kernel_rfl) (by kernel_rfl) (fun _ _ _ h => h) (.inl ⟨by rfl, fun W _ => by go_simp⟩) hH ?_
      change wpAnyH _ _ _ _ _ _ _ (Act.put _ (some 39) _) _
      simp only [Act.put, List.setIfInBounds_toArray, List.set_cons_zero, List.set_cons_succ]
      refine wpAnyH_take (i := 17) (v := (.string (t1 ++ t2 ++ t3 ++ x.key))) rfl (by kernel_rfl) (by kernel_rfl) (by kernel_rfl) (fun _ _ _ h => h) (.inl ⟨by rfl, fun W _ => by go_simp⟩) hH ?_
      change wpAnyH _ _ _ _ _ _ _ (Act.put _ (some 42) _) _
      simp only [Act.put, List.setIfInBounds_toArray, List.set_cons_zero, List.set_cons_succ]
      refine wpAnyH_ready (rs := [21]) (by kernel_rfl) (by simp) (AllReadyH.cons rfl (fun K1 hK1 => ?_) AllReadyH.nil)
      go_simp
      refine (HL2.out U3).mono ?_
      rintro r U4 ⟨rfl, be⟩
      have DU4 := hide (below_next DU3.out be)
      clear be
      refine hK1.out _ _ DU4.out (fun hH => ?_)
      clear hK1
      refine wpAnyH_take (i := 22) (v := (.string (t1 ++ t2 ++ t3 ++ x.key ++ t5))) rfl (by kernel_rfl) (by kernel_rfl) (by kernel_rfl) (fun _ _ _ h => h) (.inl ⟨by rfl, fun W _ => by go_simp⟩) hH ?_
      change wpAnyH _ _ _ _ _ _ _ (Act.put _ (some 47) _) _
      simp only [Act.put, List.setIfInBounds_toArray, List.set_cons_zero, List.set_cons_succ]
      refine wpAnyH_take (i := 23) (v := (.string (t0 ++ (t1 ++ t2 ++ t3 ++ x.key ++ t5)))) rfl (by kernel_rfl) (by kernel_rfl) (by kernel_rfl) (fun _ _ _ h => h) (.inl ⟨by rfl, fun W _ => by go_simp⟩) hH ?_
      change wpAnyH _ _ _ _ _ _ _ (Act.put _ (some 48) _) _
      simp only [Act.put, List.setIfInBounds_toArray, List.set_cons_zero, List.set_cons_succ]
      refine wpAnyH_ready (rs := [24]) (by kernel_rfl) (by simp) (AllReadyH.cons rfl (fun K1 hK1 => ?_) AllReadyH.nil)
      go_simp
      refine hK1.out _ _ DU4.out (fun hH => ?_)
      clear hK1
      refine wpAnyH_done (by kernel_rfl) ?_ _
      clear hH
      rw [FIN.out]
      clear f1 f2 f3 f4 f5 w1 w2 w3
      go_wp2
      exact ⟨⟨k + 1, KK.out.1, by go_num, rfl, below_next J2.out DU4.out⟩, by simpa [intOf] using KK.out.2⟩
    · have h1 : ¬ (k : Int) < (m.ins.length : Int) := by omega
      have NE := hide (m.pre_end k (by omega))
      have c2 := (CC.out _ JJ.out).2.1
      have h5 := HF.out.o
      have e2 : IntKind.u64.wrap (m.outs.length : Int) = (m.outs.length : Int) := wrapu _ (by omega) (by omega)
      have f1 : ¬ 9223372036854775807 < (txt (m.pre k)).size + (txt (countL m.outs.length)).size := by
        have q1 := m.mid_le 0
        have q2 := HN.out
        have q3 := congrArg List.length NE.out
        rw [List.length_append] at q3
        rw [txt_sz, txt_sz]
        omega
      have FIN : Hid (txt (m.pre k) ++ txt (countL m.outs.length) = txt (m.mid 0)) := by
        show _ = _
        rw [txt_app, NE.out]
      have HC2 := hide (HC.out m.outs.length UV.out.2.2)
      clear hk hlt h5 NE
      generalize txt (m.pre k) = t0 at *
      generalize txt (countL m.outs.length) = t1 at *
      go_upto_region 8 with (go_at_call 107; refine (HC2.out _).mono ?_; rintro r W2 ⟨rfl, be⟩; have J3 := hide (below_next JJ.out be); clear be)
      rw [FIN.out]
      clear c2 f1 FIN e2 JJ h1
      have c2 := (CC.out _ J3.out).2.1
      go_upto_region 9 with fail
      clear c2
      go_loopw [3, 60] (fun s i wr => ∃ k : Nat, k ≤ m.outs.length ∧ i = .int .i64 (k : Int) ∧ s = .string (txt (m.mid k)) ∧ Hid (Below W0.heap.size W0 wr)) (fun _ i _ => (m.outs.length - intOf i).toNat)
      case atStart => exact ⟨0, Nat.zero_le _, rfl, rfl, J3.out⟩
      case round =>
        obtain ⟨k, hk, rfl, rfl, JJ⟩ := hrel
        by_cases hlt : k < m.outs.length
        · have h1 : (k : Int) < (m.outs.length : Int) := by omega
          have h2 : (0 : Int) ≤ (k : Int) := by omega
          have h5 := HF.out.o
          have e1 : IntKind.i64.wrap ((k : Int) + 1) = k + 1 := wrapI _ (by omega) (by omega)
          have KK := hide (And.intro (show k + 1 ≤ m.outs.length by omega) (show ((m.outs.length : Int) - ((k : Int) + 1)).toNat < ((m.outs.length : Int) - (k : Int)).toNat by omega))
          obtain ⟨ga, oa, hga⟩ := HL.out.o.base (by omega)
          subst hga
          have RG : Hid (wr.rangeAt ga (oa + k * 2) m.outs[k].cells) := (HL.out.below JJ.out).o.range k hlt
          have NX := hide (m.mid_next k hlt)
          have PN := hide (Nat.le_trans (m.mid_le (k + 1)) HN.out)
          generalize m.outs[k] = x at *
          clear hk hlt h5
          go_upto_region 11 with ((with_reducible refine at_list ?_); first | refine wpLoadOr _ rfl ga (oa + k * 2) rfl x RG.out (by rfl) ?_ | refine wpList_allocA zOr' rfl rfl ?_ | refine wpList_store_newA zOr' rfl _ _ rfl _ rfl x.cells.toArray rfl x.all rfl rfl ?_)
          have J2 := hide (below_next JJ.out ((Below.refl _ _).alloc (Nat.le_refl _) (.cells x.cells.toArray 99)))
          have RX := hide (heap_alloc_last wr (.cells x.cells.toArray 99))
          clear JJ RG
          generalize wr.alloc (.cells x.cells.toArray 99) = U0 at *
          generalize wr.heap.size = g5 at *
          have XC : Hid (∀ W, Below U0.heap.size U0 W → W.cell? ⟨g5, 0, none⟩ = some (.int .u64 (x.val.toNat : Int)) ∧ W.cell? ⟨g5, 1, none⟩ = some (.string x.lock)) := fun W b => by
            have q := (b.block _ (lt_heap RX.out)).trans RX.out
            exact ⟨by rw [cell_of_row _ _ _ _ _ _ q]; rfl, by rw [cell_of_row _ _ _ _ _ _ q]; rfl⟩
          have hLn := congrArg List.length NX.out
          have hPn := PN.out
          simp only [List.length_append] at hLn
          have hkz : x.lock.data.toList.length = x.lock.size := by simp
          have hvx := x.val.toNat_lt
          have w3 : IntKind.u64.wrap (x.lock.size : Int) = (x.lock.size : Int) := wrapu _ (by omega) (by omega)
          have UX : Hid (U64 x.val.toNat ∧ U64 x.lock.size) := ⟨by unfold U64; omega, by unfold U64; omega⟩
          have z0 : (txt (m.mid k)).size = (m.mid k).length := txt_sz _
          have z2 : (txt (lowL x.val.toNat 8)).size = (lowL x.val.toNat 8).length := txt_sz _
          have z3 : (txt (countL x.lock.size)).size = (countL x.lock.size).length := txt_sz _
          have f2 : ¬ 9223372036854775807 < (txt (lowL x.val.toNat 8)).size + (txt (countL x.lock.size)).size := by omega
          have f3 : ¬ 9223372036854775807 < (txt (lowL x.val.toNat 8)).size + (txt (countL x.lock.size)).size + x.lock.size := by omega
          have f5 : ¬ 9223372036854775807 < (txt (m.mid k)).size + ((txt (lowL x.val.toNat 8)).size + (txt (countL x.lock.size)).size + x.lock.size) := by omega
          have FIN : Hid (txt (m.mid k) ++ (txt (lowL x.val.toNat 8) ++ txt (countL x.lock.size) ++ x.lock) = txt (m.mid (k + 1))) := by
            show _ = _
            rw [← NX.out]
            apply ByteArray.ext
            simp [txt]
          have HL1 := hide (HY.out x.val.toNat 8 8 rfl (by decide) UX.out.1)
          have HC1 := hide (HC.out x.lock.size UX.out.2)
          clear hLn hPn hkz hvx z0 z2 z3 NX PN UX RX
          generalize txt (lowL x.val.toNat 8) = t2 at *
          generalize txt (countL x.lock.size) = t3 at *
          generalize txt (m.mid k) = t0 at *
          have DU1 := hide ((Below.refl U0.heap.size U0).drew)
          refine wp_region_held_drew (S := fun W => Below U0.heap.size U0 W) (by kernel_rfl) DU1.out (fun hH => ?_)
          generalize hWd : U0.drew = U1 at *
          clear hWd
          refine wpAnyH_take (i := 0) (v := (.string t0)) rfl (by kernel_rfl) (by kernel_rfl) (by kernel_rfl) (fun _ _ _ h => h) (yl_move (by rfl) _ (by rfl) _ (by rfl)) hH ?_
          change wpAnyH _ _ _ _ _ _ _ (Act.put _ (some 64) _) _
          simp only [Act.put, List.setIfInBounds_toArray, List.set_cons_zero, List.set_cons_succ]
          refine wpAnyH_take (i := 1) (v := (.pointer (some ⟨g5, 0, none⟩))) rfl (by kernel_rfl) (by kernel_rfl) (by kernel_rfl) (fun _ _ _ h => h) (.inl ⟨by rfl, fun W _ => by go_simp⟩) hH ?_
          change wpAnyH _ _ _ _ _ _ _ (Act.put _ (some 65) _) _
          simp only [Act.put, List.setIfInBounds_toArray, List.set_cons_zero, List.set_cons_succ]
          refine wpAnyH_take (i := 2) (v := (.int .u64 (x.val.toNat : Int))) rfl (by kernel_rfl) (by kernel_rfl) (by kernel_rfl) (fun _ _ _ h => h) (.inl ⟨by rfl, fun W hS => by have c4 := (XC.out W hS).1; go_simp⟩) hH ?_
          change wpAnyH _ _ _ _ _ _ _ (Act.put _ (some 66) _) _
          simp only [Act.put, List.setIfInBounds_toArray, List.set_cons_zero, List.set_cons_succ]
          refine wpAnyH_take (i := 4) (v := (.pointer (some ⟨g5, 1, none⟩))) rfl (by kernel_rfl) (by kernel_rfl) (by kernel_rfl) (fun _ _ _ h => h) (.inl ⟨by rfl, fun W _ => by go_simp⟩) hH ?_
          change wpAnyH _ _ _ _ _ _ _ (Act.put _ (some 68) _) _
          simp only [Act.put, List.setIfInBounds_toArray, List.set_cons_zero, List.set_cons_succ]
          refine wpAnyH_take (i := 5) (v := (.string x.lock)) rfl (by kernel_rfl) (by kernel_rfl) (by kernel_rfl) (fun _ _ _ h => h) (.inl ⟨by rfl, fun W hS => by have c4 := (XC.out W hS).2; go_simp⟩) hH ?_
          change wpAnyH _ _ _ _ _ _ _ (Act.put _ (some 69) _) _
          simp only [Act.put, List.setIfInBounds_toArray, List.set_cons_zero, List.set_cons_succ]
          refine wpAnyH_take (i := 6) (v := (.int .i64 (x.lock.size : Int))) rfl (by kernel_rfl) (by kernel_rfl) (by kernel_rfl) (fun _ _ _ h => h) (.inl ⟨by rfl, fun W _ => by go_simp⟩) hH ?_
          change wpAnyH _ _ _ _ _ _ _ (Act.put _ (some 70) _) _
          simp only [Act.put, List.setIfInBounds_toArray, List.set_cons_zero, List.set_cons_succ]
          refine wpAnyH_take (i := 7) (v := (.int .u64 (x.lock.size : Int))) rfl (by kernel_rfl) (by kernel_rfl) (by kernel_rfl) (fun _ _ _ h => h) (.inl ⟨by rfl, fun W _ => by go_simp⟩) hH ?_
          change wpAnyH _ _ _ _ _ _ _ (Act.put _ (some 71) _) _
          simp only [Act.put, List.setIfInBounds_toArray, List.set_cons_zero, List.set_cons_succ]
          refine wpAnyH_take (i := 10) (v := (.pointer (some ⟨g5, 1, none⟩))) rfl (by kernel_rfl) (by kernel_rfl) (by kernel_rfl) (fun _ _ _ h => h) (.inl ⟨by rfl, fun W _ => by go_simp⟩) hH ?_
          change wpAnyH _ _ _ _ _ _ _ (Act.put _ (some 74) _) _
          simp only [Act.put, List.setIfInBounds_toArray, List.set_cons_zero, List.set_cons_succ]
          refine wpAnyH_take (i := 11) (v := (.string x.lock)) rfl (by kernel_rfl) (by kernel_rfl) (by kernel_rfl) (fun _ _ _ h => h) (.inl ⟨by rfl, fun W hS => by have c4 := (XC.out W hS).2; go_simp⟩) hH ?_
          change wpAnyH _ _ _ _ _ _ _ (Act.put _ (some 75) _) _
          simp only [Act.put, List.setIfInBounds_toArray, List.set_cons_zero, List.set_cons_succ]
          refine wpAnyH_ready (rs := [3]) (by kernel_rfl) (by simp) (AllReadyH.cons rfl (fun K1 hK1 => ?_) AllReadyH.nil)
          go_simp
          refine (HL1.out U1).mono ?_
          rintro r U2 ⟨rfl, be⟩
          have DU2 := hide (below_next DU1.out be)
          clear be
          refine hK1.out _ _ DU2.out (fun hH => ?_)
          clear hK1
          refine wpAnyH_ready (rs := [8]) (by kernel_rfl) (by simp) (AllReadyH.cons rfl (fun K1 hK1 => ?_) AllReadyH.nil)
          go_simp
          refine (HC1.out U2).mono ?_
          rintro r U3 ⟨rfl, be⟩
          have DU3 := hide (below_next DU2.out be)
          clear be
          refine hK1.out _ _ DU3.out (fun hH => ?_)
          clear hK1
          refine wpAnyH_take (i := 9) (v := (.string (t2 ++ t3))) rfl (by kernel_rfl) (by kernel_rfl) (by kernel_rfl) (fun _ _ _ h => h) (.inl ⟨by rfl, fun W _ => by go_simp⟩) hH ?_
          change wpAnyH _ _ _ _ _ _ _ (Act.put _ (some 73) _) _
          simp only [Act.put, List.setIfInBounds_toArray, List.set_cons_zero, List.set_cons_succ]
          refine wpAnyH_take (i := 12) (v := (.string (t2 ++ t3 ++ x.lock))) rfl (by kernel_rfl) (by kernel_rfl) (by kernel_rfl) (fun _ _ _ h => h) (.inl ⟨by rfl, fun W _ => by go_simp⟩) hH ?_
          change wpAnyH _ _ _ _ _ _ _ (Act.put _ (some 76) _) _
          simp only [Act.put, List.setIfInBounds_toArray, List.set_cons_zero, List.set_cons_succ]
          refine wpAnyH_take (i := 13) (v := (.string (t0 ++ (t2 ++ t3 ++ x.lock)))) rfl (by kernel_rfl) (by kernel_rfl) (by kernel_rfl) (fun _ _ _ h => h) (.inl ⟨by rfl, fun W _ => by go_simp⟩) hH ?_
          change wpAnyH _ _ _ _ _ _ _ (Act.put _ (some 77) _) _
          simp only [Act.put, List.setIfInBounds_toArray, List.set_cons_zero, List.set_cons_succ]
          refine wpAnyH_ready (rs := [14]) (by kernel_rfl) (by simp) (AllReadyH.cons rfl (fun K1 hK1 => ?_) AllReadyH.nil)
          go_simp
          refine hK1.out _ _ DU3.out (fun hH => ?_)
          clear hK1
          refine wpAnyH_done (by kernel_rfl) ?_ _
          clear hH
          rw [FIN.out]
          clear f2 f3 f5 w3
          go_wp2
          exact ⟨⟨k + 1, KK.out.1, by go_num, rfl, below_next J2.out DU3.out⟩, by simpa [intOf] using KK.out.2⟩
        · have h1 : ¬ (k : Int) < (m.outs.length : Int) := by omega
          have NE := hide (m.mid_end k (by omega))
          have c2 := (CC.out _ JJ.out).2.2
          have ht := m.time.toNat_lt
          have e2 : IntKind.u64.wrap (m.time.toNat : Int) = (m.time.toNat : Int) := wrapu _ (by omega) (by omega)
          have f1 : ¬ 9223372036854775807 < (txt (m.mid k)).size + (txt (lowL m.time.toNat 4)).size := by
            have q2 := HN.out
            have q3 := congrArg List.length NE.out
            rw [List.length_append] at q3
            rw [txt_sz, txt_sz]
            omega
          have FIN : Hid (txt (m.mid k) ++ txt (lowL m.time.toNat 4) = txt m.bytes) := by
            show _ = _
            rw [txt_app, NE.out]
          have HC2 := hide (HY.out m.time.toNat 4 4 rfl (by decide) (by unfold U64; omega))
          clear hk hlt ht NE
          generalize txt (m.mid k) = t0 at *
          generalize txt (lowL m.time.toNat 4) = t1 at *
          go_wp2_with (go_at_call 106; refine (HC2.out _).mono ?_; rintro r W9 ⟨rfl, be⟩; have J9 := hide (below_next JJ.out be); clear be)
          go_ret
          exact ⟨congrArg (fun b => Ending.returned (Value.string b)) FIN.out, below_next B1.out J9.out⟩
end
end Go.Proofs.YtofddbjnncgmlabGreatDoor
