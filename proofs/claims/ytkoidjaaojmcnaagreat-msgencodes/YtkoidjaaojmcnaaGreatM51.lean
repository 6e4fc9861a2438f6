/- Messages, taken out of a payload: the kinds 1, 16. Messages, taken out of a payload: the kinds 13, 14. -/
import Derived.Test.YtkoidjaaojmcnaaGreatM47
namespace Go.Proofs.YtkoidjaaojmcnaaGreat
open Go.RowKit
open Go.Deep
set_option linter.unusedVariables false
set_option linter.unusedSimpArgs false
section
set_option maxRecDepth 10000
set_option maxHeartbeats 2000000
theorem msg_1 (m : Mg) (hk : m.kind = 1) (he : m = m.namedK) (hn : m.agent.size ≤ 64) (ht : -9223372036854775808 ≤ m.time ∧ m.time ≤ 9223372036854775807) {w : World} {b : Nat} {t : ByteArray} (h : Gr w b t m.pay) (hs : t.size ≤ maxLen) : Calls Tryz.prog 32 #[.agg #[.pointer (some ⟨b, 0, none⟩), .string t], .int .i64 1] w fun e w' => ∃ v', e = .returned (.agg (m.cells v').toArray) ∧ Gr w' b t [] ∧ (∀ W', Rfk (fun j => j < w.heap.size) w' W' → ML W' v' m) ∧ Rfr b w w' := by
  have hdt : m.dst.time = 0 := (congrArg (fun x : Mg => x.dst.time) he).trans (by unfold Mg.namedK; rw [if_pos hk])
  have hst : m.src.time = 0 := (congrArg (fun x : Mg => x.src.time) he).trans (by unfold Mg.namedK; rw [if_pos hk])
  have ed : ({ m.dst with time := 0 } : Nt) = m.dst := by rw [← hdt]
  have es : ({ m.src with time := 0 } : Nt) = m.src := by rw [← hst]
  have EM := hide (show ({ zM with kind := 1, vers := m.vers, serv := m.serv, time := m.time, dst := m.dst, src := m.src, nonce := m.nonce, agent := m.agent, height := m.height, relay := m.relay } : Mg) = m from (he.trans (show m.namedK = { zM with kind := 1, vers := m.vers, serv := m.serv, time := m.time, dst := m.dst, src := m.src, nonce := m.nonce, agent := m.agent, height := m.height, relay := m.relay } by unfold Mg.namedK; rw [if_pos hk, ed, es, hk])).symm)
  have ep : m.pay = m.payV := by unfold Mg.pay; simp [hk]
  rw [ep, ← List.append_nil (m.payV)] at h
  try simp only [List.append_assoc] at h
  have H1 : Hid (∀ (K : Nat → Prop) (W : World) (g5 : Nat), Mx K W W b t (m.payV ++ []) g5 (bareM 1 0) nil8 → Calls Tryz.prog 76 #[.agg #[.pointer (some ⟨b, 0, none⟩), .string t], .pointer (some ⟨g5, 0, none⟩)] W fun e w' => e = .returned (.tuple #[]) ∧ Mx K W w' b t [] g5 { bareM 1 0 with vers := m.vers, serv := m.serv, time := m.time, dst := m.dst, src := m.src, nonce := m.nonce, agent := m.agent, height := m.height, relay := m.relay } nil8) := fun K W g5 j => version_on m (bareM 1 0) nil8 j hn ht hdt hst hs
  clear hdt hst ed es ht hn
  have HB := hide (fun W => bare_any 1 W)
  have HO := hide ((bareM 1 0).one nil8 nil8_ok)
  have HZ := hide ((bareM 1 0).size nil8)
  have HZm := hide (zM.size nil8)
  have hsz : (w.alloc (.cells #[.pointer (some ⟨b, 0, none⟩), .string t] 85)).heap.size = w.heap.size + 1 := by simp
  have ST : Hid (∀ W1, Below ((w.alloc (.cells #[.pointer (some ⟨b, 0, none⟩), .string t] 85)).alloc (.cells (zM.cells nil8).toArray 38)).heap.size ((w.alloc (.cells #[.pointer (some ⟨b, 0, none⟩), .string t] 85)).alloc (.cells (zM.cells nil8).toArray 38)) W1 → _) := fun W1 be => Ma.start 1 h be
  clear h hs he hk ep
  go_enter Tryz.func32, Tryz.ntmps32
  go_upto_region 1 with (with_reducible refine at_list ?_; first | refine wpList_boxA rfl _ rfl #[.pointer (some ⟨b, 0, none⟩), .string t] rfl ?_ | refine wpList_allocA AM rfl rfl ?_)
  rw [hsz]
  clear hsz
  generalize (w.alloc (.cells #[.pointer (some ⟨b, 0, none⟩), .string t] 85)).alloc (.cells (zM.cells nil8).toArray 38) = W0 at *
  go_upto_region 2 with (first | (go_at_call 17; refine (HB.out _).mono ?_; rintro e W1 ⟨rfl, be⟩; have B1 := hide be; clear be) | (with_reducible refine at_list ?_; first | refine wpList_allocA AM rfl rfl ?_ | refine wpList_store_newA AM rfl _ _ rfl _ rfl ((bareM 1 0).cells nil8).toArray HZ.out HO.out rfl rfl ?_))
  have MA := hide (ST.out W1 B1.out).1
  have J0 := hide (ST.out W1 B1.out).2
  clear ST B1 HB HO HZ
  generalize W1.heap.size = g5 at *
  generalize W1.alloc (.cells ((bareM 1 0).cells nil8).toArray 38) = A at *
  have P1 := hide (MA.out.px _ J0.out.fr)
  go_upto_region 35 with (first | (go_at_call 76; refine (H1.out _ _ _ J0.out).mono ?_; rintro e V1 ⟨rfl, j1⟩; have J1 := hide j1; clear j1) | ((with_reducible refine at_list ?_); refine wpList_loadS APa _ rfl w.heap.size rfl #[.pointer (some ⟨b, 0, none⟩), .string t] rfl 85 P1.out (by rfl) ?_))
  clear J0 P1 H1
  have JE := hide (J1.out.to (m' := m) EM.out)
  have R5 := hide JE.out.row
  have R4 := hide (MA.out.ga _ JE.out.fr)
  have FF := hide (MA.out.fin JE.out)
  have HOv := hide (m.one _ (JE.out.ls _ (Rfk.refl _ _)).ok)
  have HZv := hide (m.size nil8)
  clear J1 JE MA EM
  have A0 := AM
  generalize hD : (m.cells nil8).toArray = D at *
  generalize (zM.cells nil8).toArray = Z at *
  go_wp2_with ((with_reducible refine at_list ?_); first | refine wpList_loadS A0 _ rfl g5 rfl D HZv.out 38 R5.out rfl ?_ | refine wpList_storeA A0 rfl _ _ rfl (w.heap.size + 1) D HZv.out HOv.out rfl rfl Z HZm.out 38 R4.out ?_)
  refine bodyPost_ret (resA A0 rfl _ _ _ _ D HZv.out rfl FF.out.2.2.2) rfl ?_
  exact ⟨_, by rw [hD], FF.out.1, FF.out.2.1, FF.out.2.2.1⟩
end
section
set_option maxRecDepth 10000
set_option maxHeartbeats 2000000
theorem msg_16 (m : Mg) (hk : m.kind = 16) (he : m = m.namedK) (hh : m.head.size = 80) (hsn : m.shorts.length ≤ 500) (hs6 : ∀ x ∈ m.shorts, x.toNat ≤ 281474976710655) (hfn : m.filled.length ≤ 500) (hf4 : ∀ x ∈ m.filled, x.raw.size ≤ 4096) (hfr : riseP (-1) (m.filled.map Fd.place)) {w : World} {b : Nat} {t : ByteArray} (h : Gr w b t m.pay) (hs : t.size ≤ maxLen) : Calls Tryz.prog 32 #[.agg #[.pointer (some ⟨b, 0, none⟩), .string t], .int .i64 16] w fun e w' => ∃ v', e = .returned (.agg (m.cells v').toArray) ∧ Gr w' b t [] ∧ (∀ W', Rfk (fun j => j < w.heap.size) w' W' → ML W' v' m) ∧ Rfr b w w' := by
  have EM := hide (show ({ zM with kind := 16, head := m.head, nonce := m.nonce, shorts := m.shorts, filled := m.filled } : Mg) = m from (he.trans (show m.namedK = { zM with kind := 16, head := m.head, nonce := m.nonce, shorts := m.shorts, filled := m.filled } by unfold Mg.namedK; simp [hk])).symm)
  have ep : m.pay = m.payC := by unfold Mg.pay; simp [hk]
  rw [ep, ← List.append_nil (m.payC)] at h
  try simp only [List.append_assoc] at h
  have H1 : Hid (∀ (K : Nat → Prop) (W : World) (g5 : Nat), Mx K W W b t (m.payC ++ []) g5 (bareM 16 0) nil8 → Calls Tryz.prog 90 #[.agg #[.pointer (some ⟨b, 0, none⟩), .string t], .pointer (some ⟨g5, 0, none⟩)] W fun e w' => ∃ v', e = .returned (.tuple #[]) ∧ Mx K W w' b t [] g5 { bareM 16 0 with head := m.head, nonce := m.nonce, shorts := m.shorts, filled := m.filled } v') := fun K W g5 j => compact_on m (bareM 16 0) nil8 j hh hsn hs6 hfn hf4 hfr hs
  clear hh hsn hs6 hfn hf4 hfr
  have HB := hide (fun W => bare_any 16 W)
  have HO := hide ((bareM 16 0).one nil8 nil8_ok)
  have HZ := hide ((bareM 16 0).size nil8)
  have HZm := hide (zM.size nil8)
  have hsz : (w.alloc (.cells #[.pointer (some ⟨b, 0, none⟩), .string t] 85)).heap.size = w.heap.size + 1 := by simp
  have ST : Hid (∀ W1, Below ((w.alloc (.cells #[.pointer (some ⟨b, 0, none⟩), .string t] 85)).alloc (.cells (zM.cells nil8).toArray 38)).heap.size ((w.alloc (.cells #[.pointer (some ⟨b, 0, none⟩), .string t] 85)).alloc (.cells (zM.cells nil8).toArray 38)) W1 → _) := fun W1 be => Ma.start 16 h be
  clear h hs he hk ep
  go_enter Tryz.func32, Tryz.ntmps32
  go_upto_region 1 with (with_reducible refine at_list ?_; first | refine wpList_boxA rfl _ rfl #[.pointer (some ⟨b, 0, none⟩), .string t] rfl ?_ | refine wpList_allocA AM rfl rfl ?_)
  rw [hsz]
  clear hsz
  generalize (w.alloc (.cells #[.pointer (some ⟨b, 0, none⟩), .string t] 85)).alloc (.cells (zM.cells nil8).toArray 38) = W0 at *
  go_upto_region 2 with (first | (go_at_call 17; refine (HB.out _).mono ?_; rintro e W1 ⟨rfl, be⟩; have B1 := hide be; clear be) | (with_reducible refine at_list ?_; first | refine wpList_allocA AM rfl rfl ?_ | refine wpList_store_newA AM rfl _ _ rfl _ rfl ((bareM 16 0).cells nil8).toArray HZ.out HO.out rfl rfl ?_))
  have MA := hide (ST.out W1 B1.out).1
  have J0 := hide (ST.out W1 B1.out).2
  clear ST B1 HB HO HZ
  generalize W1.heap.size = g5 at *
  generalize W1.alloc (.cells ((bareM 16 0).cells nil8).toArray 38) = A at *
  have P1 := hide (MA.out.px _ J0.out.fr)
  go_upto_region 35 with (first | (go_at_call 90; refine (H1.out _ _ _ J0.out).mono ?_; rintro e V1 ⟨v1, rfl, j1⟩; have J1 := hide j1; clear j1) | ((with_reducible refine at_list ?_); refine wpList_loadS APa _ rfl w.heap.size rfl #[.pointer (some ⟨b, 0, none⟩), .string t] rfl 85 P1.out (by rfl) ?_))
  clear J0 P1 H1
  have JE := hide (J1.out.to (m' := m) EM.out)
  have R5 := hide JE.out.row
  have R4 := hide (MA.out.ga _ JE.out.fr)
  have FF := hide (MA.out.fin JE.out)
  have HOv := hide (m.one _ (JE.out.ls _ (Rfk.refl _ _)).ok)
  have HZv := hide (m.size v1)
  clear J1 JE MA EM
  have A0 := AM
  generalize hD : (m.cells v1).toArray = D at *
  generalize (zM.cells nil8).toArray = Z at *
  go_wp2_with ((with_reducible refine at_list ?_); first | refine wpList_loadS A0 _ rfl g5 rfl D HZv.out 38 R5.out rfl ?_ | refine wpList_storeA A0 rfl _ _ rfl (w.heap.size + 1) D HZv.out HOv.out rfl rfl Z HZm.out 38 R4.out ?_)
  refine bodyPost_ret (resA A0 rfl _ _ _ _ D HZv.out rfl FF.out.2.2.2) rfl ?_
  exact ⟨_, by rw [hD], FF.out.1, FF.out.2.1, FF.out.2.2.1⟩
end
end Go.Proofs.YtkoidjaaojmcnaaGreat
namespace Go.Proofs.YtkoidjaaojmcnaaGreat
open Go.RowKit
open Go.Deep
set_option linter.unusedVariables false
set_option linter.unusedSimpArgs false
section
set_option maxRecDepth 10000
set_option maxHeartbeats 2000000
theorem msg_13 (m : Mg) (hk : m.kind = 13) (he : m = m.namedK) {w : World} {b : Nat} {t : ByteArray} (h : Gr w b t m.pay) (hs : t.size ≤ maxLen) : Calls Tryz.prog 32 #[.agg #[.pointer (some ⟨b, 0, none⟩), .string t], .int .i64 13] w fun e w' => ∃ v', e = .returned (.agg (m.cells v').toArray) ∧ Gr w' b t [] ∧ (∀ W', Rfk (fun j => j < w.heap.size) w' W' → ML W' v' m) ∧ Rfr b w w' := by
  have EM := hide (show ({ zM with kind := 13, raw := m.raw } : Mg) = m from (he.trans (show m.namedK = { zM with kind := 13, raw := m.raw } by unfold Mg.namedK; simp [hk])).symm)
  have ep : m.pay = m.raw.data.toList := by unfold Mg.pay; simp [hk]
  rw [ep, ← List.append_nil (m.raw.data.toList)] at h
  try simp only [List.append_assoc] at h
  have hl : m.raw.data.toList.length = m.raw.size := by simp
  have lz := h.sz
  have H1 : Hid (∀ W, Gr W b t (m.raw.data.toList ++ []) → Calls Tryz.prog 88 #[.pointer (some ⟨b, 0, none⟩)] W fun e w' => e = .returned (.int .i64 (m.raw.size : Int)) ∧ Gr w' b t (m.raw.data.toList ++ []) ∧ Rfr b W w') := fun W g => by
    have := g.left hs
    rw [List.append_nil, hl] at this
    rw [List.append_nil]
    exact this
  have H2 : Hid (∀ W, Gr W b t (m.raw.data.toList ++ []) → Calls Tryz.prog 87 #[.pointer (some ⟨b, 0, none⟩), .int .i64 (m.raw.size : Int)] W fun e w' => e = .returned (.string m.raw) ∧ Gr w' b t [] ∧ Rfr b W w') := fun W g => by
    have := g.bytes m.raw.data.toList hs (by rw [List.append_nil] at lz; unfold maxLen at hs; omega)
    rw [hl] at this
    exact this
  clear hl lz
  generalize m.raw.data.toList ++ [] = R1 at *
  have HB := hide (fun W => bare_any 13 W)
  have HO := hide ((bareM 13 0).one nil8 nil8_ok)
  have HZ := hide ((bareM 13 0).size nil8)
  have HZm := hide (zM.size nil8)
  have hsz : (w.alloc (.cells #[.pointer (some ⟨b, 0, none⟩), .string t] 85)).heap.size = w.heap.size + 1 := by simp
  have ST : Hid (∀ W1, Below ((w.alloc (.cells #[.pointer (some ⟨b, 0, none⟩), .string t] 85)).alloc (.cells (zM.cells nil8).toArray 38)).heap.size ((w.alloc (.cells #[.pointer (some ⟨b, 0, none⟩), .string t] 85)).alloc (.cells (zM.cells nil8).toArray 38)) W1 → _) := fun W1 be => Ma.start 13 h be
  clear h hs he hk ep
  go_enter Tryz.func32, Tryz.ntmps32
  go_upto_region 1 with (with_reducible refine at_list ?_; first | refine wpList_boxA rfl _ rfl #[.pointer (some ⟨b, 0, none⟩), .string t] rfl ?_ | refine wpList_allocA AM rfl rfl ?_)
  rw [hsz]
  clear hsz
  generalize (w.alloc (.cells #[.pointer (some ⟨b, 0, none⟩), .string t] 85)).alloc (.cells (zM.cells nil8).toArray 38) = W0 at *
  go_upto_region 2 with (first | (go_at_call 17; refine (HB.out _).mono ?_; rintro e W1 ⟨rfl, be⟩; have B1 := hide be; clear be) | (with_reducible refine at_list ?_; first | refine wpList_allocA AM rfl rfl ?_ | refine wpList_store_newA AM rfl _ _ rfl _ rfl ((bareM 13 0).cells nil8).toArray HZ.out HO.out rfl rfl ?_))
  have MA := hide (ST.out W1 B1.out).1
  have J0 := hide (ST.out W1 B1.out).2
  clear ST B1 HB HO HZ
  generalize W1.heap.size = g5 at *
  generalize W1.alloc (.cells ((bareM 13 0).cells nil8).toArray 38) = A at *
  go_upto_region 22 with fail
  have PC : Hid (∀ W, Rfk (Kbg b g5) A W → W.cell? ⟨w.heap.size, 0, none⟩ = some (.pointer (some ⟨b, 0, none⟩))) := fun W f => (cell_of_row _ _ 0 _ _ _ (MA.out.px _ f)).trans rfl
  have FD : Hid (Rfk (Kbg b g5) A A.drew) := ⟨rfl, rfl, rfl, Nat.le_refl _, fun _ _ _ => rfl⟩
  have JD : Hid (Mx (Kms w b g5) A A.drew b t R1 g5 (bareM 13 0) nil8) := J0.out.next ⟨rfl, rfl, rfl, Nat.le_refl _, fun _ _ => rfl⟩
  clear J0
  refine wp_region_held_drew (S := fun W => Rfk (Kbg b g5) A W) (by kernel_rfl) FD.out (fun hH => ?_)
  generalize A.drew = W1 at *
  refine wpAnyH_take (i := 0) (v := (.pointer (some ⟨w.heap.size, 0, none⟩))) rfl (by kernel_rfl) (by kernel_rfl) (by kernel_rfl) (fun _ _ _ h => h) (.inl ⟨by rfl, fun W _ => by go_simp⟩) hH ?_
  change wpAnyH _ _ _ _ _ _ _ (Act.put _ (some 63) _) _
  simp only [Act.put, List.setIfInBounds_toArray, List.set_cons_zero, List.set_cons_succ]
  refine wpAnyH_take (i := 1) (v := (.pointer (some ⟨b, 0, none⟩))) rfl (by kernel_rfl) (by kernel_rfl) (by kernel_rfl) (fun _ _ _ h => h) (.inl ⟨by rfl, fun W hS => by have c4 := PC.out W hS; go_simp⟩) hH ?_
  change wpAnyH _ _ _ _ _ _ _ (Act.put _ (some 64) _) _
  simp only [Act.put, List.setIfInBounds_toArray, List.set_cons_zero, List.set_cons_succ]
  refine wpAnyH_take (i := 2) (v := (.pointer (some ⟨w.heap.size, 0, none⟩))) rfl (by kernel_rfl) (by kernel_rfl) (by kernel_rfl) (fun _ _ _ h => h) (.inl ⟨by rfl, fun W _ => by go_simp⟩) hH ?_
  change wpAnyH _ _ _ _ _ _ _ (Act.put _ (some 65) _) _
  simp only [Act.put, List.setIfInBounds_toArray, List.set_cons_zero, List.set_cons_succ]
  refine wpAnyH_take (i := 3) (v := (.pointer (some ⟨b, 0, none⟩))) rfl (by kernel_rfl) (by kernel_rfl) (by kernel_rfl) (fun _ _ _ h => h) (.inl ⟨by rfl, fun W hS => by have c4 := PC.out W hS; go_simp⟩) hH ?_
  change wpAnyH _ _ _ _ _ _ _ (Act.put _ (some 66) _) _
  simp only [Act.put, List.setIfInBounds_toArray, List.set_cons_zero, List.set_cons_succ]
  refine wpAnyH_ready (rs := [4]) (by kernel_rfl) (by simp) (AllReadyH.cons rfl (fun K1 hK1 => ?_) AllReadyH.nil)
  go_simp
  refine (H1.out W1 JD.out.rd).mono ?_
  rintro e W2 ⟨rfl, g1, f1⟩
  have J2 := hide (JD.out.read g1 f1)
  clear g1 f1
  refine hK1.out _ _ J2.out.fr (fun hH => ?_)
  clear hK1
  refine wpAnyH_ready (rs := [5]) (by kernel_rfl) (by simp) (AllReadyH.cons rfl (fun K1 hK1 => ?_) AllReadyH.nil)
  go_simp
  refine (H2.out W2 J2.out.rd).mono ?_
  rintro e W3 ⟨rfl, g1, f1⟩
  have J3 := hide (J2.out.read g1 f1)
  clear g1 f1
  refine hK1.out _ _ J3.out.fr (fun hH => ?_)
  clear hK1
  refine wpAnyH_take (i := 6) (v := (.pointer (some ⟨g5, 116, none⟩))) rfl (by kernel_rfl) (by kernel_rfl) (by kernel_rfl) (fun _ _ _ h => h) (.inl ⟨by rfl, fun W _ => by go_simp⟩) hH ?_
  change wpAnyH _ _ _ _ _ _ _ (Act.put _ (some 69) _) _
  simp only [Act.put, List.setIfInBounds_toArray, List.set_cons_zero, List.set_cons_succ]
  have f3 := J3.out.frozen 116
  have c3 := J3.out.cell 116 (by decide)
  have J4 := hide (J3.out.raw m.raw)
  refine wpAnyH_ready (rs := [7]) (by kernel_rfl) (by simp) (AllReadyH.cons rfl (fun K1 hK1 => ?_) AllReadyH.nil)
  go_simp
  refine hK1.out _ _ J4.out.fr (fun hH => ?_)
  clear hK1 c3 f3
  refine wpAnyH_done (by kernel_rfl) ?_ _
  clear hH J2 J3 JD H1 H2 FD PC
  generalize W3.setCell ⟨g5, 116, none⟩ (.string m.raw) = V4 at *
  go_upto_region 35 with fail
  have JE := hide (J4.out.to (m' := m) EM.out)
  have R5 := hide JE.out.row
  have R4 := hide (MA.out.ga _ JE.out.fr)
  have FF := hide (MA.out.fin JE.out)
  have HOv := hide (m.one _ (JE.out.ls _ (Rfk.refl _ _)).ok)
  have HZv := hide (m.size nil8)
  clear J4 JE MA EM
  have A0 := AM
  generalize hD : (m.cells nil8).toArray = D at *
  generalize (zM.cells nil8).toArray = Z at *
  go_wp2_with ((with_reducible refine at_list ?_); first | refine wpList_loadS A0 _ rfl g5 rfl D HZv.out 38 R5.out rfl ?_ | refine wpList_storeA A0 rfl _ _ rfl (w.heap.size + 1) D HZv.out HOv.out rfl rfl Z HZm.out 38 R4.out ?_)
  refine bodyPost_ret (resA A0 rfl _ _ _ _ D HZv.out rfl FF.out.2.2.2) rfl ?_
  exact ⟨_, by rw [hD], FF.out.1, FF.out.2.1, FF.out.2.2.1⟩
end
section
set_option maxRecDepth 10000
set_option maxHeartbeats 2000000
theorem msg_14 (m : Mg) (hk : m.kind = 14) (he : m = m.namedK) {w : World} {b : Nat} {t : ByteArray} (h : Gr w b t m.pay) (hs : t.size ≤ maxLen) : Calls Tryz.prog 32 #[.agg #[.pointer (some ⟨b, 0, none⟩), .string t], .int .i64 14] w fun e w' => ∃ v', e = .returned (.agg (m.cells v').toArray) ∧ Gr w' b t [] ∧ (∀ W', Rfk (fun j => j < w.heap.size) w' W' → ML W' v' m) ∧ Rfr b w w' := by
  have EM := hide (show ({ zM with kind := 14, raw := m.raw } : Mg) = m from (he.trans (show m.namedK = { zM with kind := 14, raw := m.raw } by unfold Mg.namedK; simp [hk])).symm)
  have ep : m.pay = m.raw.data.toList := by unfold Mg.pay; simp [hk]
  rw [ep, ← List.append_nil (m.raw.data.toList)] at h
  try simp only [List.append_assoc] at h
  have hl : m.raw.data.toList.length = m.raw.size := by simp
  have lz := h.sz
  have H1 : Hid (∀ W, Gr W b t (m.raw.data.toList ++ []) → Calls Tryz.prog 88 #[.pointer (some ⟨b, 0, none⟩)] W fun e w' => e = .returned (.int .i64 (m.raw.size : Int)) ∧ Gr w' b t (m.raw.data.toList ++ []) ∧ Rfr b W w') := fun W g => by
    have := g.left hs
    rw [List.append_nil, hl] at this
    rw [List.append_nil]
    exact this
  have H2 : Hid (∀ W, Gr W b t (m.raw.data.toList ++ []) → Calls Tryz.prog 87 #[.pointer (some ⟨b, 0, none⟩), .int .i64 (m.raw.size : Int)] W fun e w' => e = .returned (.string m.raw) ∧ Gr w' b t [] ∧ Rfr b W w') := fun W g => by
    have := g.bytes m.raw.data.toList hs (by rw [List.append_nil] at lz; unfold maxLen at hs; omega)
    rw [hl] at this
    exact this
  clear hl lz
  generalize m.raw.data.toList ++ [] = R1 at *
  have HB := hide (fun W => bare_any 14 W)
  have HO := hide ((bareM 14 0).one nil8 nil8_ok)
  have HZ := hide ((bareM 14 0).size nil8)
  have HZm := hide (zM.size nil8)
  have hsz : (w.alloc (.cells #[.pointer (some ⟨b, 0, none⟩), .string t] 85)).heap.size = w.heap.size + 1 := by simp
  have ST : Hid (∀ W1, Below ((w.alloc (.cells #[.pointer (some ⟨b, 0, none⟩), .string t] 85)).alloc (.cells (zM.cells nil8).toArray 38)).heap.size ((w.alloc (.cells #[.pointer (some ⟨b, 0, none⟩), .string t] 85)).alloc (.cells (zM.cells nil8).toArray 38)) W1 → _) := fun W1 be => Ma.start 14 h be
  clear h hs he hk ep
  go_enter Tryz.func32, Tryz.ntmps32
  go_upto_region 1 with (with_reducible refine at_list ?_; first | refine wpList_boxA rfl _ rfl #[.pointer (some ⟨b, 0, none⟩), .string t] rfl ?_ | refine wpList_allocA AM rfl rfl ?_)
  rw [hsz]
  clear hsz
  generalize (w.alloc (.cells #[.pointer (some ⟨b, 0, none⟩), .string t] 85)).alloc (.cells (zM.cells nil8).toArray 38) = W0 at *
  go_upto_region 2 with (first | (go_at_call 17; refine (HB.out _).mono ?_; rintro e W1 ⟨rfl, be⟩; have B1 := hide be; clear be) | (with_reducible refine at_list ?_; first | refine wpList_allocA AM rfl rfl ?_ | refine wpList_store_newA AM rfl _ _ rfl _ rfl ((bareM 14 0).cells nil8).toArray HZ.out HO.out rfl rfl ?_))
  have MA := hide (ST.out W1 B1.out).1
  have J0 := hide (ST.out W1 B1.out).2
  clear ST B1 HB HO HZ
  generalize W1.heap.size = g5 at *
  generalize W1.alloc (.cells ((bareM 14 0).cells nil8).toArray 38) = A at *
  go_upto_region 22 with fail
  have PC : Hid (∀ W, Rfk (Kbg b g5) A W → W.cell? ⟨w.heap.size, 0, none⟩ = some (.pointer (some ⟨b, 0, none⟩))) := fun W f => (cell_of_row _ _ 0 _ _ _ (MA.out.px _ f)).trans rfl
  have FD : Hid (Rfk (Kbg b g5) A A.drew) := ⟨rfl, rfl, rfl, Nat.le_refl _, fun _ _ _ => rfl⟩
  have JD : Hid (Mx (Kms w b g5) A A.drew b t R1 g5 (bareM 14 0) nil8) := J0.out.next ⟨rfl, rfl, rfl, Nat.le_refl _, fun _ _ => rfl⟩
  clear J0
  refine wp_region_held_drew (S := fun W => Rfk (Kbg b g5) A W) (by kernel_rfl) FD.out (fun hH => ?_)
  generalize A.drew = W1 at *
  refine wpAnyH_take (i := 0) (v := (.pointer (some ⟨w.heap.size, 0, none⟩))) rfl (by kernel_rfl) (by kernel_rfl) (by kernel_rfl) (fun _ _ _ h => h) (.inl ⟨by rfl, fun W _ => by go_simp⟩) hH ?_
  change wpAnyH _ _ _ _ _ _ _ (Act.put _ (some 63) _) _
  simp only [Act.put, List.setIfInBounds_toArray, List.set_cons_zero, List.set_cons_succ]
  refine wpAnyH_take (i := 1) (v := (.pointer (some ⟨b, 0, none⟩))) rfl (by kernel_rfl) (by kernel_rfl) (by kernel_rfl) (fun _ _ _ h => h) (.inl ⟨by rfl, fun W hS => by have c4 := PC.out W hS; go_simp⟩) hH ?_
  change wpAnyH _ _ _ _ _ _ _ (Act.put _ (some 64) _) _
  simp only [Act.put, List.setIfInBounds_toArray, List.set_cons_zero, List.set_cons_succ]
  refine wpAnyH_take (i := 2) (v := (.pointer (some ⟨w.heap.size, 0, none⟩))) rfl (by kernel_rfl) (by kernel_rfl) (by kernel_rfl) (fun _ _ _ h => h) (.inl ⟨by rfl, fun W _ => by go_simp⟩) hH ?_
  change wpAnyH _ _ _ _ _ _ _ (Act.put _ (some 65) _) _
  simp only [Act.put, List.setIfInBounds_toArray, List.set_cons_zero, List.set_cons_succ]
  refine wpAnyH_take (i := 3) (v := (.pointer (some ⟨b, 0, none⟩))) rfl (by kernel_rfl) (by kernel_rfl) (by kernel_rfl) (fun _ _ _ h => h) (.inl ⟨by rfl, fun W hS => by have c4 := PC.out W hS; go_simp⟩) hH ?_
  change wpAnyH _ _ _ _ _ _ _ (Act.put _ (some 66) _) _
  simp only [Act.put, List.setIfInBounds_toArray, List.set_cons_zero, List.set_cons_succ]
  refine wpAnyH_ready (rs := [4]) (by kernel_rfl) (by simp) (AllReadyH.cons rfl (fun K1 hK1 => ?_) AllReadyH.nil)
  go_simp
  refine (H1.out W1 JD.out.rd).mono ?_
  rintro e W2 ⟨rfl, g1, f1⟩
  have J2 := hide (JD.out.read g1 f1)
  clear g1 f1
  refine hK1.out _ _ J2.out.fr (fun hH => ?_)
  clear hK1
  refine wpAnyH_ready (rs := [5]) (by kernel_rfl) (by simp) (AllReadyH.cons rfl (fun K1 hK1 => ?_) AllReadyH.nil)
  go_simp
  refine (H2.out W2 J2.out.rd).mono ?_
  rintro e W3 ⟨rfl, g1, f1⟩
  have J3 := hide (J2.out.read g1 f1)
  clear g1 f1
  refine hK1.out _ _ J3.out.fr (fun hH => ?_)
  clear hK1
  refine wpAnyH_take (i := 6) (v := (.pointer (some ⟨g5, 116, none⟩))) rfl (by kernel_rfl) (by kernel_rfl) (by kernel_rfl) (fun _ _ _ h => h) (.inl ⟨by rfl, fun W _ => by go_simp⟩) hH ?_
  change wpAnyH _ _ _ _ _ _ _ (Act.put _ (some 69) _) _
  simp only [Act.put, List.setIfInBounds_toArray, List.set_cons_zero, List.set_cons_succ]
  have f3 := J3.out.frozen 116
  have c3 := J3.out.cell 116 (by decide)
  have J4 := hide (J3.out.raw m.raw)
  refine wpAnyH_ready (rs := [7]) (by kernel_rfl) (by simp) (AllReadyH.cons rfl (fun K1 hK1 => ?_) AllReadyH.nil)
  go_simp
  refine hK1.out _ _ J4.out.fr (fun hH => ?_)
  clear hK1 c3 f3
  refine wpAnyH_done (by kernel_rfl) ?_ _
  clear hH J2 J3 JD H1 H2 FD PC
  generalize W3.setCell ⟨g5, 116, none⟩ (.string m.raw) = V4 at *
  go_upto_region 35 with fail
  have JE := hide (J4.out.to (m' := m) EM.out)
  have R5 := hide JE.out.row
  have R4 := hide (MA.out.ga _ JE.out.fr)
  have FF := hide (MA.out.fin JE.out)
  have HOv := hide (m.one _ (JE.out.ls _ (Rfk.refl _ _)).ok)
  have HZv := hide (m.size nil8)
  clear J4 JE MA EM
  have A0 := AM
  generalize hD : (m.cells nil8).toArray = D at *
  generalize (zM.cells nil8).toArray = Z at *
  go_wp2_with ((with_reducible refine at_list ?_); first | refine wpList_loadS A0 _ rfl g5 rfl D HZv.out 38 R5.out rfl ?_ | refine wpList_storeA A0 rfl _ _ rfl (w.heap.size + 1) D HZv.out HOv.out rfl rfl Z HZm.out 38 R4.out ?_)
  refine bodyPost_ret (resA A0 rfl _ _ _ _ D HZv.out rfl FF.out.2.2.2) rfl ?_
  exact ⟨_, by rw [hD], FF.out.1, FF.out.2.1, FF.out.2.2.1⟩
end
end Go.Proofs.YtkoidjaaojmcnaaGreat
