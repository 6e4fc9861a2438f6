/- Messages, taken out of a payload: the kinds 2, 3, 4, 6, 7, 8. -/
import Derived.Test.YtkoidjaaojmcnaaGreatM47
namespace Go.Proofs.YtkoidjaaojmcnaaGreat
open Go.RowKit
open Go.Deep
set_option linter.unusedVariables false
set_option linter.unusedSimpArgs false
section
set_option maxRecDepth 10000
set_option maxHeartbeats 2000000
theorem msg_2 (m : Mg) (hk : m.kind = 2) (he : m = m.namedK) {w : World} {b : Nat} {t : ByteArray} (h : Gr w b t m.pay) (hs : t.size ≤ maxLen) : Calls Tryz.prog 32 #[.agg #[.pointer (some ⟨b, 0, none⟩), .string t], .int .i64 2] w fun e w' => ∃ v', e = .returned (.agg (m.cells v').toArray) ∧ Gr w' b t [] ∧ (∀ W', Rfk (fun j => j < w.heap.size) w' W' → ML W' v' m) ∧ Rfr b w w' := by
  have EM := hide (show ({ zM with kind := 2 } : Mg) = m from (he.trans (show m.namedK = { zM with kind := 2 } by unfold Mg.namedK; simp [hk])).symm)
  have ep : m.pay = ([] : List UInt8) := by unfold Mg.pay; simp [hk]
  rw [ep] at h
  have HB := hide (fun W => bare_any 2 W)
  have HO := hide ((bareM 2 0).one nil8 nil8_ok)
  have HZ := hide ((bareM 2 0).size nil8)
  have HZm := hide (zM.size nil8)
  have hsz : (w.alloc (.cells #[.pointer (some ⟨b, 0, none⟩), .string t] 85)).heap.size = w.heap.size + 1 := by simp
  have ST : Hid (∀ W1, Below ((w.alloc (.cells #[.pointer (some ⟨b, 0, none⟩), .string t] 85)).alloc (.cells (zM.cells nil8).toArray 38)).heap.size ((w.alloc (.cells #[.pointer (some ⟨b, 0, none⟩), .string t] 85)).alloc (.cells (zM.cells nil8).toArray 38)) W1 → _) := fun W1 be => Ma.start 2 h be
  clear h hs he hk ep
  go_enter Tryz.func32, Tryz.ntmps32
  go_upto_region 1 with (with_reducible refine at_list ?_; first | refine wpList_boxA rfl _ rfl #[.pointer (some ⟨b, 0, none⟩), .string t] rfl ?_ | refine wpList_allocA AM rfl rfl ?_)
  rw [hsz]
  clear hsz
  generalize (w.alloc (.cells #[.pointer (some ⟨b, 0, none⟩), .string t] 85)).alloc (.cells (zM.cells nil8).toArray 38) = W0 at *
  go_upto_region 2 with (first | (go_at_call 17; refine (HB.out _).mono ?_; rintro e W1 ⟨rfl, be⟩; have B1 := hide be; clear be) | (with_reducible refine at_list ?_; first | refine wpList_allocA AM rfl rfl ?_ | refine wpList_store_newA AM rfl _ _ rfl _ rfl ((bareM 2 0).cells nil8).toArray HZ.out HO.out rfl rfl ?_))
  have MA := hide (ST.out W1 B1.out).1
  have J0 := hide (ST.out W1 B1.out).2
  clear ST B1 HB HO HZ
  generalize W1.heap.size = g5 at *
  generalize W1.alloc (.cells ((bareM 2 0).cells nil8).toArray 38) = A at *
  go_upto_region 35 with fail
  have JE := hide (J0.out.to (m' := m) EM.out)
  have R5 := hide JE.out.row
  have R4 := hide (MA.out.ga _ JE.out.fr)
  have FF := hide (MA.out.fin JE.out)
  have HOv := hide (m.one _ (JE.out.ls _ (Rfk.refl _ _)).ok)
  have HZv := hide (m.size nil8)
  clear J0 JE MA EM
  have A0 := AM
  generalize hD : (m.cells nil8).toArray = D at *
  generalize (zM.cells nil8).toArray = Z at *
  go_wp2_with ((with_reducible refine at_list ?_); first | refine wpList_loadS A0 _ rfl g5 rfl D HZv.out 38 R5.out rfl ?_ | refine wpList_storeA A0 rfl _ _ rfl (w.heap.size + 1) D HZv.out HOv.out rfl rfl Z HZm.out 38 R4.out ?_)
  refine bodyPost_ret (resA A0 rfl _ _ _ _ D HZv.out rfl FF.out.2.2.2) rfl ?_
  exact ⟨_, by rw [hD], FF.out.1, FF.out.2.1, FF.out.2.2.1⟩
end
section
set_option maxRecDepth 10000
set_option maxHeartbeats 2000000
theorem msg_3 (m : Mg) (hk : m.kind = 3) (he : m = m.namedK) {w : World} {b : Nat} {t : ByteArray} (h : Gr w b t m.pay) (hs : t.size ≤ maxLen) : Calls Tryz.prog 32 #[.agg #[.pointer (some ⟨b, 0, none⟩), .string t], .int .i64 3] w fun e w' => ∃ v', e = .returned (.agg (m.cells v').toArray) ∧ Gr w' b t [] ∧ (∀ W', Rfk (fun j => j < w.heap.size) w' W' → ML W' v' m) ∧ Rfr b w w' := by
  have EM := hide (show ({ zM with kind := 3 } : Mg) = m from (he.trans (show m.namedK = { zM with kind := 3 } by unfold Mg.namedK; simp [hk])).symm)
  have ep : m.pay = ([] : List UInt8) := by unfold Mg.pay; simp [hk]
  rw [ep] at h
  have HB := hide (fun W => bare_any 3 W)
  have HO := hide ((bareM 3 0).one nil8 nil8_ok)
  have HZ := hide ((bareM 3 0).size nil8)
  have HZm := hide (zM.size nil8)
  have hsz : (w.alloc (.cells #[.pointer (some ⟨b, 0, none⟩), .string t] 85)).heap.size = w.heap.size + 1 := by simp
  have ST : Hid (∀ W1, Below ((w.alloc (.cells #[.pointer (some ⟨b, 0, none⟩), .string t] 85)).alloc (.cells (zM.cells nil8).toArray 38)).heap.size ((w.alloc (.cells #[.pointer (some ⟨b, 0, none⟩), .string t] 85)).alloc (.cells (zM.cells nil8).toArray 38)) W1 → _) := fun W1 be => Ma.start 3 h be
  clear h hs he hk ep
  go_enter Tryz.func32, Tryz.ntmps32
  go_upto_region 1 with (with_reducible refine at_list ?_; first | refine wpList_boxA rfl _ rfl #[.pointer (some ⟨b, 0, none⟩), .string t] rfl ?_ | refine wpList_allocA AM rfl rfl ?_)
  rw [hsz]
  clear hsz
  generalize (w.alloc (.cells #[.pointer (some ⟨b, 0, none⟩), .string t] 85)).alloc (.cells (zM.cells nil8).toArray 38) = W0 at *
  go_upto_region 2 with (first | (go_at_call 17; refine (HB.out _).mono ?_; rintro e W1 ⟨rfl, be⟩; have B1 := hide be; clear be) | (with_reducible refine at_list ?_; first | refine wpList_allocA AM rfl rfl ?_ | refine wpList_store_newA AM rfl _ _ rfl _ rfl ((bareM 3 0).cells nil8).toArray HZ.out HO.out rfl rfl ?_))
  have MA := hide (ST.out W1 B1.out).1
  have J0 := hide (ST.out W1 B1.out).2
  clear ST B1 HB HO HZ
  generalize W1.heap.size = g5 at *
  generalize W1.alloc (.cells ((bareM 3 0).cells nil8).toArray 38) = A at *
  go_upto_region 35 with fail
  have JE := hide (J0.out.to (m' := m) EM.out)
  have R5 := hide JE.out.row
  have R4 := hide (MA.out.ga _ JE.out.fr)
  have FF := hide (MA.out.fin JE.out)
  have HOv := hide (m.one _ (JE.out.ls _ (Rfk.refl _ _)).ok)
  have HZv := hide (m.size nil8)
  clear J0 JE MA EM
  have A0 := AM
  generalize hD : (m.cells nil8).toArray = D at *
  generalize (zM.cells nil8).toArray = Z at *
  go_wp2_with ((with_reducible refine at_list ?_); first | refine wpList_loadS A0 _ rfl g5 rfl D HZv.out 38 R5.out rfl ?_ | refine wpList_storeA A0 rfl _ _ rfl (w.heap.size + 1) D HZv.out HOv.out rfl rfl Z HZm.out 38 R4.out ?_)
  refine bodyPost_ret (resA A0 rfl _ _ _ _ D HZv.out rfl FF.out.2.2.2) rfl ?_
  exact ⟨_, by rw [hD], FF.out.1, FF.out.2.1, FF.out.2.2.1⟩
end
section
set_option maxRecDepth 10000
set_option maxHeartbeats 2000000
theorem msg_4 (m : Mg) (hk : m.kind = 4) (he : m = m.namedK) {w : World} {b : Nat} {t : ByteArray} (h : Gr w b t m.pay) (hs : t.size ≤ maxLen) : Calls Tryz.prog 32 #[.agg #[.pointer (some ⟨b, 0, none⟩), .string t], .int .i64 4] w fun e w' => ∃ v', e = .returned (.agg (m.cells v').toArray) ∧ Gr w' b t [] ∧ (∀ W', Rfk (fun j => j < w.heap.size) w' W' → ML W' v' m) ∧ Rfr b w w' := by
  have EM := hide (show ({ zM with kind := 4 } : Mg) = m from (he.trans (show m.namedK = { zM with kind := 4 } by unfold Mg.namedK; simp [hk])).symm)
  have ep : m.pay = ([] : List UInt8) := by unfold Mg.pay; simp [hk]
  rw [ep] at h
  have HB := hide (fun W => bare_any 4 W)
  have HO := hide ((bareM 4 0).one nil8 nil8_ok)
  have HZ := hide ((bareM 4 0).size nil8)
  have HZm := hide (zM.size nil8)
  have hsz : (w.alloc (.cells #[.pointer (some ⟨b, 0, none⟩), .string t] 85)).heap.size = w.heap.size + 1 := by simp
  have ST : Hid (∀ W1, Below ((w.alloc (.cells #[.pointer (some ⟨b, 0, none⟩), .string t] 85)).alloc (.cells (zM.cells nil8).toArray 38)).heap.size ((w.alloc (.cells #[.pointer (some ⟨b, 0, none⟩), .string t] 85)).alloc (.cells (zM.cells nil8).toArray 38)) W1 → _) := fun W1 be => Ma.start 4 h be
  clear h hs he hk ep
  go_enter Tryz.func32, Tryz.ntmps32
  go_upto_region 1 with (with_reducible refine at_list ?_; first | refine wpList_boxA rfl _ rfl #[.pointer (some ⟨b, 0, none⟩), .string t] rfl ?_ | refine wpList_allocA AM rfl rfl ?_)
  rw [hsz]
  clear hsz
  generalize (w.alloc (.cells #[.pointer (some ⟨b, 0, none⟩), .string t] 85)).alloc (.cells (zM.cells nil8).toArray 38) = W0 at *
  go_upto_region 2 with (first | (go_at_call 17; refine (HB.out _).mono ?_; rintro e W1 ⟨rfl, be⟩; have B1 := hide be; clear be) | (with_reducible refine at_list ?_; first | refine wpList_allocA AM rfl rfl ?_ | refine wpList_store_newA AM rfl _ _ rfl _ rfl ((bareM 4 0).cells nil8).toArray HZ.out HO.out rfl rfl ?_))
  have MA := hide (ST.out W1 B1.out).1
  have J0 := hide (ST.out W1 B1.out).2
  clear ST B1 HB HO HZ
  generalize W1.heap.size = g5 at *
  generalize W1.alloc (.cells ((bareM 4 0).cells nil8).toArray 38) = A at *
  go_upto_region 35 with fail
  have JE := hide (J0.out.to (m' := m) EM.out)
  have R5 := hide JE.out.row
  have R4 := hide (MA.out.ga _ JE.out.fr)
  have FF := hide (MA.out.fin JE.out)
  have HOv := hide (m.one _ (JE.out.ls _ (Rfk.refl _ _)).ok)
  have HZv := hide (m.size nil8)
  clear J0 JE MA EM
  have A0 := AM
  generalize hD : (m.cells nil8).toArray = D at *
  generalize (zM.cells nil8).toArray = Z at *
  go_wp2_with ((with_reducible refine at_list ?_); first | refine wpList_loadS A0 _ rfl g5 rfl D HZv.out 38 R5.out rfl ?_ | refine wpList_storeA A0 rfl _ _ rfl (w.heap.size + 1) D HZv.out HOv.out rfl rfl Z HZm.out 38 R4.out ?_)
  refine bodyPost_ret (resA A0 rfl _ _ _ _ D HZv.out rfl FF.out.2.2.2) rfl ?_
  exact ⟨_, by rw [hD], FF.out.1, FF.out.2.1, FF.out.2.2.1⟩
end
section
set_option maxRecDepth 10000
set_option maxHeartbeats 2000000
theorem msg_6 (m : Mg) (hk : m.kind = 6) (he : m = m.namedK) {w : World} {b : Nat} {t : ByteArray} (h : Gr w b t m.pay) (hs : t.size ≤ maxLen) : Calls Tryz.prog 32 #[.agg #[.pointer (some ⟨b, 0, none⟩), .string t], .int .i64 6] w fun e w' => ∃ v', e = .returned (.agg (m.cells v').toArray) ∧ Gr w' b t [] ∧ (∀ W', Rfk (fun j => j < w.heap.size) w' W' → ML W' v' m) ∧ Rfr b w w' := by
  have EM := hide (show ({ zM with kind := 6, nonce := m.nonce } : Mg) = m from (he.trans (show m.namedK = { zM with kind := 6, nonce := m.nonce } by unfold Mg.namedK; simp [hk])).symm)
  have ep : m.pay = lowL m.nonce.toNat 8 := by unfold Mg.pay; simp [hk]
  rw [ep, ← List.append_nil (lowL m.nonce.toNat 8)] at h
  try simp only [List.append_assoc] at h
  have H1 : Hid (∀ W, Gr W b t (lowL m.nonce.toNat 8 ++ []) → Calls Tryz.prog 77 #[.pointer (some ⟨b, 0, none⟩)] W fun e w' => e = .returned (.int .u64 (m.nonce.toNat : Int)) ∧ Gr w' b t [] ∧ Rfr b W w') := fun W g => g.u64 m.nonce.toNat m.nonce.toNat_lt hs
  have HB := hide (fun W => bare_any 6 W)
  have HO := hide ((bareM 6 0).one nil8 nil8_ok)
  have HZ := hide ((bareM 6 0).size nil8)
  have HZm := hide (zM.size nil8)
  have hsz : (w.alloc (.cells #[.pointer (some ⟨b, 0, none⟩), .string t] 85)).heap.size = w.heap.size + 1 := by simp
  have ST : Hid (∀ W1, Below ((w.alloc (.cells #[.pointer (some ⟨b, 0, none⟩), .string t] 85)).alloc (.cells (zM.cells nil8).toArray 38)).heap.size ((w.alloc (.cells #[.pointer (some ⟨b, 0, none⟩), .string t] 85)).alloc (.cells (zM.cells nil8).toArray 38)) W1 → _) := fun W1 be => Ma.start 6 h be
  clear h hs he hk ep
  go_enter Tryz.func32, Tryz.ntmps32
  go_upto_region 1 with (with_reducible refine at_list ?_; first | refine wpList_boxA rfl _ rfl #[.pointer (some ⟨b, 0, none⟩), .string t] rfl ?_ | refine wpList_allocA AM rfl rfl ?_)
  rw [hsz]
  clear hsz
  generalize (w.alloc (.cells #[.pointer (some ⟨b, 0, none⟩), .string t] 85)).alloc (.cells (zM.cells nil8).toArray 38) = W0 at *
  go_upto_region 2 with (first | (go_at_call 17; refine (HB.out _).mono ?_; rintro e W1 ⟨rfl, be⟩; have B1 := hide be; clear be) | (with_reducible refine at_list ?_; first | refine wpList_allocA AM rfl rfl ?_ | refine wpList_store_newA AM rfl _ _ rfl _ rfl ((bareM 6 0).cells nil8).toArray HZ.out HO.out rfl rfl ?_))
  have MA := hide (ST.out W1 B1.out).1
  have J0 := hide (ST.out W1 B1.out).2
  clear ST B1 HB HO HZ
  generalize W1.heap.size = g5 at *
  generalize W1.alloc (.cells ((bareM 6 0).cells nil8).toArray 38) = A at *
  have P1 := hide (MA.out.px _ J0.out.fr)
  have c0 : _ = some (Value.pointer (some ⟨b, 0, none⟩)) := (cell_of_row _ _ 0 _ _ _ P1.out).trans rfl
  go_upto_region 35 with (go_at_call 77; refine (H1.out _ J0.out.rd).mono ?_; rintro e W1 ⟨rfl, g1, f1⟩; have K1 := hide (J0.out.read g1 f1); have f3 := K1.out.frozen 3; have c3 := K1.out.cell 3 (by decide); clear g1 f1)
  have J1 := hide (K1.out.nonce m.nonce)
  clear J0 K1 H1 c0 P1 c3 f3
  generalize W1.setCell ⟨g5, 3, none⟩ (.int .u64 (m.nonce.toNat : Int)) = V1 at *
  have JE := hide (J1.out.to (m' := m) EM.out)
  have R5 := hide JE.out.row
  have R4 := hide (MA.out.ga _ JE.out.fr)
  have FF := hide (MA.out.fin JE.out)
  have HOv := hide (m.one _ (JE.out.ls _ (Rfk.refl _ _)).ok)
  have HZv := hide (m.size nil8)
  clear J1 JE MA EM
  have A0 := AM
  generalize hD : (m.cells nil8).toArray = D at *
  generalize (zM.cells nil8).toArray = Z at *
  go_wp2_with ((with_reducible refine at_list ?_); first | refine wpList_loadS A0 _ rfl g5 rfl D HZv.out 38 R5.out rfl ?_ | refine wpList_storeA A0 rfl _ _ rfl (w.heap.size + 1) D HZv.out HOv.out rfl rfl Z HZm.out 38 R4.out ?_)
  refine bodyPost_ret (resA A0 rfl _ _ _ _ D HZv.out rfl FF.out.2.2.2) rfl ?_
  exact ⟨_, by rw [hD], FF.out.1, FF.out.2.1, FF.out.2.2.1⟩
end
section
set_option maxRecDepth 10000
set_option maxHeartbeats 2000000
theorem msg_7 (m : Mg) (hk : m.kind = 7) (he : m = m.namedK) (hn : m.addrs.length ≤ 100) {w : World} {b : Nat} {t : ByteArray} (h : Gr w b t m.pay) (hs : t.size ≤ maxLen) : Calls Tryz.prog 32 #[.agg #[.pointer (some ⟨b, 0, none⟩), .string t], .int .i64 7] w fun e w' => ∃ v', e = .returned (.agg (m.cells v').toArray) ∧ Gr w' b t [] ∧ (∀ W', Rfk (fun j => j < w.heap.size) w' W' → ML W' v' m) ∧ Rfr b w w' := by
  have EM := hide (show ({ zM with kind := 7, addrs := m.addrs } : Mg) = m from (he.trans (show m.namedK = { zM with kind := 7, addrs := m.addrs } by unfold Mg.namedK; simp [hk])).symm)
  have ep : m.pay = countL m.addrs.length ++ m.addrs.flatMap Nt.full := by unfold Mg.pay; simp [hk]
  rw [ep, ← List.append_nil (countL m.addrs.length ++ m.addrs.flatMap Nt.full)] at h
  try simp only [List.append_assoc] at h
  have H1 : Hid (∀ W : World, Gr W b t (countL m.addrs.length ++ (m.addrs.flatMap Nt.full ++ [])) → Calls Tryz.prog 78 #[.agg #[.pointer (some ⟨b, 0, none⟩), .string t], .int .u64 100, .func (.func 79) #[.agg #[.pointer (some ⟨b, 0, none⟩), .string t]] #[]] W fun e w' => ∃ u, e = .returned u ∧ OX KN w' u m.addrs ∧ (∀ g, u.ownBlock = some g → W.heap.size ≤ g) ∧ Gr w' b t [] ∧ Rfr b W w') := fun W g => list_net m.addrs b t [] hn hs W g
  have HB := hide (fun W => bare_any 7 W)
  have HO := hide ((bareM 7 0).one nil8 nil8_ok)
  have HZ := hide ((bareM 7 0).size nil8)
  have HZm := hide (zM.size nil8)
  have hsz : (w.alloc (.cells #[.pointer (some ⟨b, 0, none⟩), .string t] 85)).heap.size = w.heap.size + 1 := by simp
  have ST : Hid (∀ W1, Below ((w.alloc (.cells #[.pointer (some ⟨b, 0, none⟩), .string t] 85)).alloc (.cells (zM.cells nil8).toArray 38)).heap.size ((w.alloc (.cells #[.pointer (some ⟨b, 0, none⟩), .string t] 85)).alloc (.cells (zM.cells nil8).toArray 38)) W1 → _) := fun W1 be => Ma.start 7 h be
  clear h hs he hk ep
  go_enter Tryz.func32, Tryz.ntmps32
  go_upto_region 1 with (with_reducible refine at_list ?_; first | refine wpList_boxA rfl _ rfl #[.pointer (some ⟨b, 0, none⟩), .string t] rfl ?_ | refine wpList_allocA AM rfl rfl ?_)
  rw [hsz]
  clear hsz
  generalize (w.alloc (.cells #[.pointer (some ⟨b, 0, none⟩), .string t] 85)).alloc (.cells (zM.cells nil8).toArray 38) = W0 at *
  go_upto_region 2 with (first | (go_at_call 17; refine (HB.out _).mono ?_; rintro e W1 ⟨rfl, be⟩; have B1 := hide be; clear be) | (with_reducible refine at_list ?_; first | refine wpList_allocA AM rfl rfl ?_ | refine wpList_store_newA AM rfl _ _ rfl _ rfl ((bareM 7 0).cells nil8).toArray HZ.out HO.out rfl rfl ?_))
  have MA := hide (ST.out W1 B1.out).1
  have J0 := hide (ST.out W1 B1.out).2
  clear ST B1 HB HO HZ
  generalize W1.heap.size = g5 at *
  generalize W1.alloc (.cells ((bareM 7 0).cells nil8).toArray 38) = A at *
  have P1 := hide (MA.out.px _ J0.out.fr)
  go_upto_region 35 with (first | (go_at_call 78; refine (H1.out _ J0.out.rd).mono ?_; rintro e W1 ⟨u1, rfl, o1, far, g1, f1⟩; obtain ⟨ao1, cp1, rfl⟩ := o1.form; have K1 := hide (J0.out.read g1 f1); have O1 := hide o1; have N1 := hide (J0.out.far far); have f3 := K1.out.frozen 47; have c3 := K1.out.cell 47 (by decide); clear g1 f1 o1 far) | ((with_reducible refine at_list ?_); refine wpList_loadS APa _ rfl w.heap.size rfl #[.pointer (some ⟨b, 0, none⟩), .string t] rfl 85 P1.out (by rfl) ?_))
  have J1 := hide (K1.out.addrs _ m.addrs O1.out N1.out)
  clear J0 K1 H1 P1 c3 f3 O1 N1
  generalize W1.setCell ⟨g5, 47, none⟩ (.slice ao1 m.addrs.length cp1) = V1 at *
  have JE := hide (J1.out.to (m' := m) EM.out)
  have R5 := hide JE.out.row
  have R4 := hide (MA.out.ga _ JE.out.fr)
  have FF := hide (MA.out.fin JE.out)
  have HOv := hide (m.one _ (JE.out.ls _ (Rfk.refl _ _)).ok)
  have HZv := hide (m.size (nil8.ata (.slice ao1 m.addrs.length cp1)))
  clear J1 JE MA EM
  have A0 := AM
  generalize hD : (m.cells (nil8.ata (.slice ao1 m.addrs.length cp1))).toArray = D at *
  generalize (zM.cells nil8).toArray = Z at *
  go_wp2_with ((with_reducible refine at_list ?_); first | refine wpList_loadS A0 _ rfl g5 rfl D HZv.out 38 R5.out rfl ?_ | refine wpList_storeA A0 rfl _ _ rfl (w.heap.size + 1) D HZv.out HOv.out rfl rfl Z HZm.out 38 R4.out ?_)
  refine bodyPost_ret (resA A0 rfl _ _ _ _ D HZv.out rfl FF.out.2.2.2) rfl ?_
  exact ⟨_, by rw [hD], FF.out.1, FF.out.2.1, FF.out.2.2.1⟩
end
section
set_option maxRecDepth 10000
set_option maxHeartbeats 2000000
theorem msg_8 (m : Mg) (hk : m.kind = 8) (he : m = m.namedK) (hn : m.items.length ≤ 500) {w : World} {b : Nat} {t : ByteArray} (h : Gr w b t m.pay) (hs : t.size ≤ maxLen) : Calls Tryz.prog 32 #[.agg #[.pointer (some ⟨b, 0, none⟩), .string t], .int .i64 8] w fun e w' => ∃ v', e = .returned (.agg (m.cells v').toArray) ∧ Gr w' b t [] ∧ (∀ W', Rfk (fun j => j < w.heap.size) w' W' → ML W' v' m) ∧ Rfr b w w' := by
  have EM := hide (show ({ zM with kind := 8, items := m.items } : Mg) = m from (he.trans (show m.namedK = { zM with kind := 8, items := m.items } by unfold Mg.namedK; simp [hk])).symm)
  have ep : m.pay = countL m.items.length ++ m.items.flatMap Im.bytes := by unfold Mg.pay; simp [hk]
  rw [ep, ← List.append_nil (countL m.items.length ++ m.items.flatMap Im.bytes)] at h
  try simp only [List.append_assoc] at h
  have H1 : Hid (∀ W : World, Gr W b t (countL m.items.length ++ (m.items.flatMap Im.bytes ++ [])) → Calls Tryz.prog 80 #[.agg #[.pointer (some ⟨b, 0, none⟩), .string t], .int .u64 500, .func (.func 81) #[.agg #[.pointer (some ⟨b, 0, none⟩), .string t]] #[]] W fun e w' => ∃ u, e = .returned u ∧ OX KI w' u m.items ∧ (∀ g, u.ownBlock = some g → W.heap.size ≤ g) ∧ Gr w' b t [] ∧ Rfr b W w') := fun W g => list_item m.items b t [] hn hs W g
  have HB := hide (fun W => bare_any 8 W)
  have HO := hide ((bareM 8 0).one nil8 nil8_ok)
  have HZ := hide ((bareM 8 0).size nil8)
  have HZm := hide (zM.size nil8)
  have hsz : (w.alloc (.cells #[.pointer (some ⟨b, 0, none⟩), .string t] 85)).heap.size = w.heap.size + 1 := by simp
  have ST : Hid (∀ W1, Below ((w.alloc (.cells #[.pointer (some ⟨b, 0, none⟩), .string t] 85)).alloc (.cells (zM.cells nil8).toArray 38)).heap.size ((w.alloc (.cells #[.pointer (some ⟨b, 0, none⟩), .string t] 85)).alloc (.cells (zM.cells nil8).toArray 38)) W1 → _) := fun W1 be => Ma.start 8 h be
  clear h hs he hk ep
  go_enter Tryz.func32, Tryz.ntmps32
  go_upto_region 1 with (with_reducible refine at_list ?_; first | refine wpList_boxA rfl _ rfl #[.pointer (some ⟨b, 0, none⟩), .string t] rfl ?_ | refine wpList_allocA AM rfl rfl ?_)
  rw [hsz]
  clear hsz
  generalize (w.alloc (.cells #[.pointer (some ⟨b, 0, none⟩), .string t] 85)).alloc (.cells (zM.cells nil8).toArray 38) = W0 at *
  go_upto_region 2 with (first | (go_at_call 17; refine (HB.out _).mono ?_; rintro e W1 ⟨rfl, be⟩; have B1 := hide be; clear be) | (with_reducible refine at_list ?_; first | refine wpList_allocA AM rfl rfl ?_ | refine wpList_store_newA AM rfl _ _ rfl _ rfl ((bareM 8 0).cells nil8).toArray HZ.out HO.out rfl rfl ?_))
  have MA := hide (ST.out W1 B1.out).1
  have J0 := hide (ST.out W1 B1.out).2
  clear ST B1 HB HO HZ
  generalize W1.heap.size = g5 at *
  generalize W1.alloc (.cells ((bareM 8 0).cells nil8).toArray 38) = A at *
  have P1 := hide (MA.out.px _ J0.out.fr)
  go_upto_region 35 with (first | (go_at_call 80; refine (H1.out _ J0.out.rd).mono ?_; rintro e W1 ⟨u1, rfl, o1, far, g1, f1⟩; obtain ⟨ao1, cp1, rfl⟩ := o1.form; have K1 := hide (J0.out.read g1 f1); have O1 := hide o1; have N1 := hide (J0.out.far far); have f3 := K1.out.frozen 48; have c3 := K1.out.cell 48 (by decide); clear g1 f1 o1 far) | ((with_reducible refine at_list ?_); refine wpList_loadS APa _ rfl w.heap.size rfl #[.pointer (some ⟨b, 0, none⟩), .string t] rfl 85 P1.out (by rfl) ?_))
  have J1 := hide (K1.out.items _ m.items O1.out N1.out)
  clear J0 K1 H1 P1 c3 f3 O1 N1
  generalize W1.setCell ⟨g5, 48, none⟩ (.slice ao1 m.items.length cp1) = V1 at *
  have JE := hide (J1.out.to (m' := m) EM.out)
  have R5 := hide JE.out.row
  have R4 := hide (MA.out.ga _ JE.out.fr)
  have FF := hide (MA.out.fin JE.out)
  have HOv := hide (m.one _ (JE.out.ls _ (Rfk.refl _ _)).ok)
  have HZv := hide (m.size (nil8.ati (.slice ao1 m.items.length cp1)))
  clear J1 JE MA EM
  have A0 := AM
  generalize hD : (m.cells (nil8.ati (.slice ao1 m.items.length cp1))).toArray = D at *
  generalize (zM.cells nil8).toArray = Z at *
  go_wp2_with ((with_reducible refine at_list ?_); first | refine wpList_loadS A0 _ rfl g5 rfl D HZv.out 38 R5.out rfl ?_ | refine wpList_storeA A0 rfl _ _ rfl (w.heap.size + 1) D HZv.out HOv.out rfl rfl Z HZm.out 38 R4.out ?_)
  refine bodyPost_ret (resA A0 rfl _ _ _ _ D HZv.out rfl FF.out.2.2.2) rfl ?_
  exact ⟨_, by rw [hD], FF.out.1, FF.out.2.1, FF.out.2.2.1⟩
end
end Go.Proofs.YtkoidjaaojmcnaaGreat
