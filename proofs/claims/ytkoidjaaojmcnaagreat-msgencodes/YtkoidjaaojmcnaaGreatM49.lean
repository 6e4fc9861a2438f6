/- Messages, taken out of a payload: the kinds 9, 10, 12, 15. -/
import Derived.Test.YtkoidjaaojmcnaaGreatM47
namespace Go.Proofs.YtkoidjaaojmcnaaGreat
open Go.RowKit
open Go.Deep
set_option linter.unusedVariables false
set_option linter.unusedSimpArgs false
section
set_option maxRecDepth 10000
set_option maxHeartbeats 2000000
theorem msg_9 (m : Mg) (hk : m.kind = 9) (he : m = m.namedK) (hn : m.items.length ≤ 500) {w : World} {b : Nat} {t : ByteArray} (h : Gr w b t m.pay) (hs : t.size ≤ maxLen) : Calls Tryz.prog 32 #[.agg #[.pointer (some ⟨b, 0, none⟩), .string t], .int .i64 9] w fun e w' => ∃ v', e = .returned (.agg (m.cells v').toArray) ∧ Gr w' b t [] ∧ (∀ W', Rfk (fun j => j < w.heap.size) w' W' → ML W' v' m) ∧ Rfr b w w' := by
  have EM := hide (show ({ zM with kind := 9, items := m.items } : Mg) = m from (he.trans (show m.namedK = { zM with kind := 9, items := m.items } by unfold Mg.namedK; simp [hk])).symm)
  have ep : m.pay = countL m.items.length ++ m.items.flatMap Im.bytes := by unfold Mg.pay; simp [hk]
  rw [ep, ← List.append_nil (countL m.items.length ++ m.items.flatMap Im.bytes)] at h
  try simp only [List.append_assoc] at h
  have H1 : Hid (∀ W : World, Gr W b t (countL m.items.length ++ (m.items.flatMap Im.bytes ++ [])) → Calls Tryz.prog 80 #[.agg #[.pointer (some ⟨b, 0, none⟩), .string t], .int .u64 500, .func (.func 81) #[.agg #[.pointer (some ⟨b, 0, none⟩), .string t]] #[]] W fun e w' => ∃ u, e = .returned u ∧ OX KI w' u m.items ∧ (∀ g, u.ownBlock = some g → W.heap.size ≤ g) ∧ Gr w' b t [] ∧ Rfr b W w') := fun W g => list_item m.items b t [] hn hs W g
  have HB := hide (fun W => bare_any 9 W)
  have HO := hide ((bareM 9 0).one nil8 nil8_ok)
  have HZ := hide ((bareM 9 0).size nil8)
  have HZm := hide (zM.size nil8)
  have hsz : (w.alloc (.cells #[.pointer (some ⟨b, 0, none⟩), .string t] 85)).heap.size = w.heap.size + 1 := by simp
  have ST : Hid (∀ W1, Below ((w.alloc (.cells #[.pointer (some ⟨b, 0, none⟩), .string t] 85)).alloc (.cells (zM.cells nil8).toArray 38)).heap.size ((w.alloc (.cells #[.pointer (some ⟨b, 0, none⟩), .string t] 85)).alloc (.cells (zM.cells nil8).toArray 38)) W1 → _) := fun W1 be => Ma.start 9 h be
  clear h hs he hk ep
  go_enter Tryz.func32, Tryz.ntmps32
  go_upto_region 1 with (with_reducible refine at_list ?_; first | refine wpList_boxA rfl _ rfl #[.pointer (some ⟨b, 0, none⟩), .string t] rfl ?_ | refine wpList_allocA AM rfl rfl ?_)
  rw [hsz]
  clear hsz
  generalize (w.alloc (.cells #[.pointer (some ⟨b, 0, none⟩), .string t] 85)).alloc (.cells (zM.cells nil8).toArray 38) = W0 at *
  go_upto_region 2 with (first | (go_at_call 17; refine (HB.out _).mono ?_; rintro e W1 ⟨rfl, be⟩; have B1 := hide be; clear be) | (with_reducible refine at_list ?_; first | refine wpList_allocA AM rfl rfl ?_ | refine wpList_store_newA AM rfl _ _ rfl _ rfl ((bareM 9 0).cells nil8).toArray HZ.out HO.out rfl rfl ?_))
  have MA := hide (ST.out W1 B1.out).1
  have J0 := hide (ST.out W1 B1.out).2
  clear ST B1 HB HO HZ
  generalize W1.heap.size = g5 at *
  generalize W1.alloc (.cells ((bareM 9 0).cells nil8).toArray 38) = A at *
  have P1 := hide (MA.out.px _ J0.out.fr)
  go_upto_region 35 with (first | (go_at_call 80; refine (H1.out _ J0.out.rd).mono ?_; rintro e W1 ⟨u1, rfl, o1, far, g1, f1⟩; obtain ⟨ao1, cp1, rfl⟩ := o1.form; have K1 := hide (J0.out.read g1 f1); have O1 := hide o1; have N1 := hide (J0.out.far far); have f3 := K1.out.frozen 48; have c3 := K1.out.cell 48 (by decide); clear g1 f1 o1 far) | ((with_reducible refine at_list ?_); refine wpList_loadS APa _ rfl w.heap.size rfl #[.pointer (some ⟨b, 0, none⟩), .string t] rfl 85 P1.out (by rfl) ?_))
  have J1 := hide (K1.out.items _ m.items O1.out N1.out)
  clear J0 K1 H1 P1 c3 f3 O1 N1
  generalize W1.setCell ⟨g5, 48, none⟩ (.slice ao1 m.items.length cp1) = V1 at *
  have JE := hide (J1.out.to (m' := m) EM.out)
  have R5 := hide JE.out.row
  have R4 := hide (MA.out.ga _ JE.out.fr)
  have FF := hide (MA.out.fin JE.out)
  have HOv := hide (m.one _ (JE.out.ls _ (Rfk.refl _ _)).ok)
  have HZv := hide (m.size (nil8.ati (.slice ao1 m.items.length cp1)))
  clear J1 JE MA EM
  have A0 := AM
  generalize hD : (m.cells (nil8.ati (.slice ao1 m.items.length cp1))).toArray = D at *
  generalize (zM.cells nil8).toArray = Z at *
  go_wp2_with ((with_reducible refine at_list ?_); first | refine wpList_loadS A0 _ rfl g5 rfl D HZv.out 38 R5.out rfl ?_ | refine wpList_storeA A0 rfl _ _ rfl (w.heap.size + 1) D HZv.out HOv.out rfl rfl Z HZm.out 38 R4.out ?_)
  refine bodyPost_ret (resA A0 rfl _ _ _ _ D HZv.out rfl FF.out.2.2.2) rfl ?_
  exact ⟨_, by rw [hD], FF.out.1, FF.out.2.1, FF.out.2.2.1⟩
end
section
set_option maxRecDepth 10000
set_option maxHeartbeats 2000000
theorem msg_10 (m : Mg) (hk : m.kind = 10) (he : m = m.namedK) (hn : m.items.length ≤ 500) {w : World} {b : Nat} {t : ByteArray} (h : Gr w b t m.pay) (hs : t.size ≤ maxLen) : Calls Tryz.prog 32 #[.agg #[.pointer (some ⟨b, 0, none⟩), .string t], .int .i64 10] w fun e w' => ∃ v', e = .returned (.agg (m.cells v').toArray) ∧ Gr w' b t [] ∧ (∀ W', Rfk (fun j => j < w.heap.size) w' W' → ML W' v' m) ∧ Rfr b w w' := by
  have EM := hide (show ({ zM with kind := 10, items := m.items } : Mg) = m from (he.trans (show m.namedK = { zM with kind := 10, items := m.items } by unfold Mg.namedK; simp [hk])).symm)
  have ep : m.pay = countL m.items.length ++ m.items.flatMap Im.bytes := by unfold Mg.pay; simp [hk]
  rw [ep, ← List.append_nil (countL m.items.length ++ m.items.flatMap Im.bytes)] at h
  try simp only [List.append_assoc] at h
  have H1 : Hid (∀ W : World, Gr W b t (countL m.items.length ++ (m.items.flatMap Im.bytes ++ [])) → Calls Tryz.prog 80 #[.agg #[.pointer (some ⟨b, 0, none⟩), .string t], .int .u64 500, .func (.func 81) #[.agg #[.pointer (some ⟨b, 0, none⟩), .string t]] #[]] W fun e w' => ∃ u, e = .returned u ∧ OX KI w' u m.items ∧ (∀ g, u.ownBlock = some g → W.heap.size ≤ g) ∧ Gr w' b t [] ∧ Rfr b W w') := fun W g => list_item m.items b t [] hn hs W g
  have HB := hide (fun W => bare_any 10 W)
  have HO := hide ((bareM 10 0).one nil8 nil8_ok)
  have HZ := hide ((bareM 10 0).size nil8)
  have HZm := hide (zM.size nil8)
  have hsz : (w.alloc (.cells #[.pointer (some ⟨b, 0, none⟩), .string t] 85)).heap.size = w.heap.size + 1 := by simp
  have ST : Hid (∀ W1, Below ((w.alloc (.cells #[.pointer (some ⟨b, 0, none⟩), .string t] 85)).alloc (.cells (zM.cells nil8).toArray 38)).heap.size ((w.alloc (.cells #[.pointer (some ⟨b, 0, none⟩), .string t] 85)).alloc (.cells (zM.cells nil8).toArray 38)) W1 → _) := fun W1 be => Ma.start 10 h be
  clear h hs he hk ep
  go_enter Tryz.func32, Tryz.ntmps32
  go_upto_region 1 with (with_reducible refine at_list ?_; first | refine wpList_boxA rfl _ rfl #[.pointer (some ⟨b, 0, none⟩), .string t] rfl ?_ | refine wpList_allocA AM rfl rfl ?_)
  rw [hsz]
  clear hsz
  generalize (w.alloc (.cells #[.pointer (some ⟨b, 0, none⟩), .string t] 85)).alloc (.cells (zM.cells nil8).toArray 38) = W0 at *
  go_upto_region 2 with (first | (go_at_call 17; refine (HB.out _).mono ?_; rintro e W1 ⟨rfl, be⟩; have B1 := hide be; clear be) | (with_reducible refine at_list ?_; first | refine wpList_allocA AM rfl rfl ?_ | refine wpList_store_newA AM rfl _ _ rfl _ rfl ((bareM 10 0).cells nil8).toArray HZ.out HO.out rfl rfl ?_))
  have MA := hide (ST.out W1 B1.out).1
  have J0 := hide (ST.out W1 B1.out).2
  clear ST B1 HB HO HZ
  generalize W1.heap.size = g5 at *
  generalize W1.alloc (.cells ((bareM 10 0).cells nil8).toArray 38) = A at *
  have P1 := hide (MA.out.px _ J0.out.fr)
  go_upto_region 35 with (first | (go_at_call 80; refine (H1.out _ J0.out.rd).mono ?_; rintro e W1 ⟨u1, rfl, o1, far, g1, f1⟩; obtain ⟨ao1, cp1, rfl⟩ := o1.form; have K1 := hide (J0.out.read g1 f1); have O1 := hide o1; have N1 := hide (J0.out.far far); have f3 := K1.out.frozen 48; have c3 := K1.out.cell 48 (by decide); clear g1 f1 o1 far) | ((with_reducible refine at_list ?_); refine wpList_loadS APa _ rfl w.heap.size rfl #[.pointer (some ⟨b, 0, none⟩), .string t] rfl 85 P1.out (by rfl) ?_))
  have J1 := hide (K1.out.items _ m.items O1.out N1.out)
  clear J0 K1 H1 P1 c3 f3 O1 N1
  generalize W1.setCell ⟨g5, 48, none⟩ (.slice ao1 m.items.length cp1) = V1 at *
  have JE := hide (J1.out.to (m' := m) EM.out)
  have R5 := hide JE.out.row
  have R4 := hide (MA.out.ga _ JE.out.fr)
  have FF := hide (MA.out.fin JE.out)
  have HOv := hide (m.one _ (JE.out.ls _ (Rfk.refl _ _)).ok)
  have HZv := hide (m.size (nil8.ati (.slice ao1 m.items.length cp1)))
  clear J1 JE MA EM
  have A0 := AM
  generalize hD : (m.cells (nil8.ati (.slice ao1 m.items.length cp1))).toArray = D at *
  generalize (zM.cells nil8).toArray = Z at *
  go_wp2_with ((with_reducible refine at_list ?_); first | refine wpList_loadS A0 _ rfl g5 rfl D HZv.out 38 R5.out rfl ?_ | refine wpList_storeA A0 rfl _ _ rfl (w.heap.size + 1) D HZv.out HOv.out rfl rfl Z HZm.out 38 R4.out ?_)
  refine bodyPost_ret (resA A0 rfl _ _ _ _ D HZv.out rfl FF.out.2.2.2) rfl ?_
  exact ⟨_, by rw [hD], FF.out.1, FF.out.2.1, FF.out.2.2.1⟩
end
section
set_option maxRecDepth 10000
set_option maxHeartbeats 2000000
theorem msg_12 (m : Mg) (hk : m.kind = 12) (he : m = m.namedK) (hn : m.heads.length ≤ 100) (h8 : ∀ x ∈ m.heads, x.size = 80) {w : World} {b : Nat} {t : ByteArray} (h : Gr w b t m.pay) (hs : t.size ≤ maxLen) : Calls Tryz.prog 32 #[.agg #[.pointer (some ⟨b, 0, none⟩), .string t], .int .i64 12] w fun e w' => ∃ v', e = .returned (.agg (m.cells v').toArray) ∧ Gr w' b t [] ∧ (∀ W', Rfk (fun j => j < w.heap.size) w' W' → ML W' v' m) ∧ Rfr b w w' := by
  have EM := hide (show ({ zM with kind := 12, heads := m.heads } : Mg) = m from (he.trans (show m.namedK = { zM with kind := 12, heads := m.heads } by unfold Mg.namedK; simp [hk])).symm)
  have ep : m.pay = countL m.heads.length ++ m.heads.flatMap (fun x : ByteArray => x.data.toList ++ [0]) := by unfold Mg.pay; simp [hk]
  rw [ep, ← List.append_nil (countL m.heads.length ++ m.heads.flatMap (fun x : ByteArray => x.data.toList ++ [0]))] at h
  try simp only [List.append_assoc] at h
  have H1 : Hid (∀ W : World, Gr W b t (countL m.heads.length ++ (m.heads.flatMap (fun x : ByteArray => x.data.toList ++ [0]) ++ [])) → Calls Tryz.prog 85 #[.agg #[.pointer (some ⟨b, 0, none⟩), .string t], .int .u64 100, .func (.func 86) #[.agg #[.pointer (some ⟨b, 0, none⟩), .string t]] #[]] W fun e w' => ∃ u, e = .returned u ∧ OX KS w' u m.heads ∧ (∀ g, u.ownBlock = some g → W.heap.size ≤ g) ∧ Gr w' b t [] ∧ Rfr b W w') := fun W g => list_head m.heads b t [] hn h8 hs W g
  have HB := hide (fun W => bare_any 12 W)
  have HO := hide ((bareM 12 0).one nil8 nil8_ok)
  have HZ := hide ((bareM 12 0).size nil8)
  have HZm := hide (zM.size nil8)
  have hsz : (w.alloc (.cells #[.pointer (some ⟨b, 0, none⟩), .string t] 85)).heap.size = w.heap.size + 1 := by simp
  have ST : Hid (∀ W1, Below ((w.alloc (.cells #[.pointer (some ⟨b, 0, none⟩), .string t] 85)).alloc (.cells (zM.cells nil8).toArray 38)).heap.size ((w.alloc (.cells #[.pointer (some ⟨b, 0, none⟩), .string t] 85)).alloc (.cells (zM.cells nil8).toArray 38)) W1 → _) := fun W1 be => Ma.start 12 h be
  clear h hs he hk ep
  go_enter Tryz.func32, Tryz.ntmps32
  go_upto_region 1 with (with_reducible refine at_list ?_; first | refine wpList_boxA rfl _ rfl #[.pointer (some ⟨b, 0, none⟩), .string t] rfl ?_ | refine wpList_allocA AM rfl rfl ?_)
  rw [hsz]
  clear hsz
  generalize (w.alloc (.cells #[.pointer (some ⟨b, 0, none⟩), .string t] 85)).alloc (.cells (zM.cells nil8).toArray 38) = W0 at *
  go_upto_region 2 with (first | (go_at_call 17; refine (HB.out _).mono ?_; rintro e W1 ⟨rfl, be⟩; have B1 := hide be; clear be) | (with_reducible refine at_list ?_; first | refine wpList_allocA AM rfl rfl ?_ | refine wpList_store_newA AM rfl _ _ rfl _ rfl ((bareM 12 0).cells nil8).toArray HZ.out HO.out rfl rfl ?_))
  have MA := hide (ST.out W1 B1.out).1
  have J0 := hide (ST.out W1 B1.out).2
  clear ST B1 HB HO HZ
  generalize W1.heap.size = g5 at *
  generalize W1.alloc (.cells ((bareM 12 0).cells nil8).toArray 38) = A at *
  have P1 := hide (MA.out.px _ J0.out.fr)
  go_upto_region 35 with (first | (go_at_call 85; refine (H1.out _ J0.out.rd).mono ?_; rintro e W1 ⟨u1, rfl, o1, far, g1, f1⟩; obtain ⟨ao1, cp1, rfl⟩ := o1.form; have K1 := hide (J0.out.read g1 f1); have O1 := hide o1; have N1 := hide (J0.out.far far); have f3 := K1.out.frozen 114; have c3 := K1.out.cell 114 (by decide); clear g1 f1 o1 far) | ((with_reducible refine at_list ?_); refine wpList_loadS APa _ rfl w.heap.size rfl #[.pointer (some ⟨b, 0, none⟩), .string t] rfl 85 P1.out (by rfl) ?_))
  have J1 := hide (K1.out.heads _ m.heads O1.out N1.out)
  clear J0 K1 H1 P1 c3 f3 O1 N1
  generalize W1.setCell ⟨g5, 114, none⟩ (.slice ao1 m.heads.length cp1) = V1 at *
  have JE := hide (J1.out.to (m' := m) EM.out)
  have R5 := hide JE.out.row
  have R4 := hide (MA.out.ga _ JE.out.fr)
  have FF := hide (MA.out.fin JE.out)
  have HOv := hide (m.one _ (JE.out.ls _ (Rfk.refl _ _)).ok)
  have HZv := hide (m.size (nil8.athd (.slice ao1 m.heads.length cp1)))
  clear J1 JE MA EM
  have A0 := AM
  generalize hD : (m.cells (nil8.athd (.slice ao1 m.heads.length cp1))).toArray = D at *
  generalize (zM.cells nil8).toArray = Z at *
  go_wp2_with ((with_reducible refine at_list ?_); first | refine wpList_loadS A0 _ rfl g5 rfl D HZv.out 38 R5.out rfl ?_ | refine wpList_storeA A0 rfl _ _ rfl (w.heap.size + 1) D HZv.out HOv.out rfl rfl Z HZm.out 38 R4.out ?_)
  refine bodyPost_ret (resA A0 rfl _ _ _ _ D HZv.out rfl FF.out.2.2.2) rfl ?_
  exact ⟨_, by rw [hD], FF.out.1, FF.out.2.1, FF.out.2.2.1⟩
end
section
set_option maxRecDepth 10000
set_option maxHeartbeats 2000000
theorem msg_15 (m : Mg) (hk : m.kind = 15) (he : m = m.namedK) {w : World} {b : Nat} {t : ByteArray} (h : Gr w b t m.pay) (hs : t.size ≤ maxLen) : Calls Tryz.prog 32 #[.agg #[.pointer (some ⟨b, 0, none⟩), .string t], .int .i64 15] w fun e w' => ∃ v', e = .returned (.agg (m.cells v').toArray) ∧ Gr w' b t [] ∧ (∀ W', Rfk (fun j => j < w.heap.size) w' W' → ML W' v' m) ∧ Rfr b w w' := by
  have EM := hide (show ({ zM with kind := 15, high := m.high, nonce := m.nonce } : Mg) = m from (he.trans (show m.namedK = { zM with kind := 15, high := m.high, nonce := m.nonce } by unfold Mg.namedK; simp [hk])).symm)
  have ep : m.pay = flagL m.high ++ lowL m.nonce.toNat 8 := by unfold Mg.pay; simp [hk]
  rw [ep, ← List.append_nil (flagL m.high ++ lowL m.nonce.toNat 8)] at h
  try simp only [List.append_assoc] at h
  have H1 : Hid (∀ W, Gr W b t (flagL m.high ++ (lowL m.nonce.toNat 8 ++ [])) → Calls Tryz.prog 89 #[.pointer (some ⟨b, 0, none⟩)] W fun e w' => e = .returned (.bool m.high) ∧ Gr w' b t (lowL m.nonce.toNat 8 ++ []) ∧ Rfr b W w') := fun W g => g.bool m.high hs
  have H2 : Hid (∀ W, Gr W b t (lowL m.nonce.toNat 8 ++ []) → Calls Tryz.prog 77 #[.pointer (some ⟨b, 0, none⟩)] W fun e w' => e = .returned (.int .u64 (m.nonce.toNat : Int)) ∧ Gr w' b t [] ∧ Rfr b W w') := fun W g => g.u64 m.nonce.toNat m.nonce.toNat_lt hs
  have HB := hide (fun W => bare_any 15 W)
  have HO := hide ((bareM 15 0).one nil8 nil8_ok)
  have HZ := hide ((bareM 15 0).size nil8)
  have HZm := hide (zM.size nil8)
  have hsz : (w.alloc (.cells #[.pointer (some ⟨b, 0, none⟩), .string t] 85)).heap.size = w.heap.size + 1 := by simp
  have ST : Hid (∀ W1, Below ((w.alloc (.cells #[.pointer (some ⟨b, 0, none⟩), .string t] 85)).alloc (.cells (zM.cells nil8).toArray 38)).heap.size ((w.alloc (.cells #[.pointer (some ⟨b, 0, none⟩), .string t] 85)).alloc (.cells (zM.cells nil8).toArray 38)) W1 → _) := fun W1 be => Ma.start 15 h be
  clear h hs he hk ep
  go_enter Tryz.func32, Tryz.ntmps32
  go_upto_region 1 with (with_reducible refine at_list ?_; first | refine wpList_boxA rfl _ rfl #[.pointer (some ⟨b, 0, none⟩), .string t] rfl ?_ | refine wpList_allocA AM rfl rfl ?_)
  rw [hsz]
  clear hsz
  generalize (w.alloc (.cells #[.pointer (some ⟨b, 0, none⟩), .string t] 85)).alloc (.cells (zM.cells nil8).toArray 38) = W0 at *
  go_upto_region 2 with (first | (go_at_call 17; refine (HB.out _).mono ?_; rintro e W1 ⟨rfl, be⟩; have B1 := hide be; clear be) | (with_reducible refine at_list ?_; first | refine wpList_allocA AM rfl rfl ?_ | refine wpList_store_newA AM rfl _ _ rfl _ rfl ((bareM 15 0).cells nil8).toArray HZ.out HO.out rfl rfl ?_))
  have MA := hide (ST.out W1 B1.out).1
  have J0 := hide (ST.out W1 B1.out).2
  clear ST B1 HB HO HZ
  generalize W1.heap.size = g5 at *
  generalize W1.alloc (.cells ((bareM 15 0).cells nil8).toArray 38) = A at *
  have P1 := hide (MA.out.px _ J0.out.fr)
  have c0 : _ = some (Value.pointer (some ⟨b, 0, none⟩)) := (cell_of_row _ _ 0 _ _ _ P1.out).trans rfl
  go_upto_region 25 with (go_at_call 89; refine (H1.out _ J0.out.rd).mono ?_; rintro e W1 ⟨rfl, g1, f1⟩; have K1 := hide (J0.out.read g1 f1); have f3 := K1.out.frozen 46; have c3 := K1.out.cell 46 (by decide); clear g1 f1)
  have J1 := hide (K1.out.high m.high)
  clear J0 K1 H1 c0 P1 c3 f3
  generalize W1.setCell ⟨g5, 46, none⟩ (.bool m.high) = V1 at *
  have P2 := hide (MA.out.px _ J1.out.fr)
  have c0 : _ = some (Value.pointer (some ⟨b, 0, none⟩)) := (cell_of_row _ _ 0 _ _ _ P2.out).trans rfl
  go_upto_region 35 with (go_at_call 77; refine (H2.out _ J1.out.rd).mono ?_; rintro e W2 ⟨rfl, g1, f1⟩; have K2 := hide (J1.out.read g1 f1); have f3 := K2.out.frozen 3; have c3 := K2.out.cell 3 (by decide); clear g1 f1)
  have J2 := hide (K2.out.nonce m.nonce)
  clear J1 K2 H2 c0 P2 c3 f3
  generalize W2.setCell ⟨g5, 3, none⟩ (.int .u64 (m.nonce.toNat : Int)) = V2 at *
  have JE := hide (J2.out.to (m' := m) EM.out)
  have R5 := hide JE.out.row
  have R4 := hide (MA.out.ga _ JE.out.fr)
  have FF := hide (MA.out.fin JE.out)
  have HOv := hide (m.one _ (JE.out.ls _ (Rfk.refl _ _)).ok)
  have HZv := hide (m.size nil8)
  clear J2 JE MA EM
  have A0 := AM
  generalize hD : (m.cells nil8).toArray = D at *
  generalize (zM.cells nil8).toArray = Z at *
  go_wp2_with ((with_reducible refine at_list ?_); first | refine wpList_loadS A0 _ rfl g5 rfl D HZv.out 38 R5.out rfl ?_ | refine wpList_storeA A0 rfl _ _ rfl (w.heap.size + 1) D HZv.out HOv.out rfl rfl Z HZm.out 38 R4.out ?_)
  refine bodyPost_ret (resA A0 rfl _ _ _ _ D HZv.out rfl FF.out.2.2.2) rfl ?_
  exact ⟨_, by rw [hD], FF.out.1, FF.out.2.1, FF.out.2.2.1⟩
end
end Go.Proofs.YtkoidjaaojmcnaaGreat
