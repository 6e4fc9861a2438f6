/- Messages, taken out of a payload: the kinds 11, 17, 18. -/
import Derived.Test.YtkoidjaaojmcnaaGreatM47
namespace Go.Proofs.YtkoidjaaojmcnaaGreat
open Go.RowKit
open Go.Deep
set_option linter.unusedVariables false
set_option linter.unusedSimpArgs false
section
set_option maxRecDepth 10000
set_option maxHeartbeats 2000000
theorem msg_11 (m : Mg) (hk : m.kind = 11) (he : m = m.namedK) (hn : m.hashes.length ≤ 64) {w : World} {b : Nat} {t : ByteArray} (h : Gr w b t m.pay) (hs : t.size ≤ maxLen) : Calls Tryz.prog 32 #[.agg #[.pointer (some ⟨b, 0, none⟩), .string t], .int .i64 11] w fun e w' => ∃ v', e = .returned (.agg (m.cells v').toArray) ∧ Gr w' b t [] ∧ (∀ W', Rfk (fun j => j < w.heap.size) w' W' → ML W' v' m) ∧ Rfr b w w' := by
  have EM := hide (show ({ zM with kind := 11, vers := m.vers, hashes := m.hashes, stop := m.stop } : Mg) = m from (he.trans (show m.namedK = { zM with kind := 11, vers := m.vers, hashes := m.hashes, stop := m.stop } by unfold Mg.namedK; simp [hk])).symm)
  have ep : m.pay = lowL m.vers.toNat 4 ++ (countL m.hashes.length ++ m.hashes.flatMap (fun x : Id32 => x.1) ++ m.stop.1) := by unfold Mg.pay; simp [hk]
  rw [ep, ← List.append_nil (lowL m.vers.toNat 4 ++ (countL m.hashes.length ++ m.hashes.flatMap (fun x : Id32 => x.1) ++ m.stop.1))] at h
  try simp only [List.append_assoc] at h
  have H3 : Hid (∀ W, Gr W b t (m.stop.1 ++ []) → Calls Tryz.prog 84 #[.pointer (some ⟨b, 0, none⟩)] W fun e w' => e = .returned (.agg (hc m.stop.1)) ∧ Gr w' b t [] ∧ Rfr b W w') := fun W g => g.hash m.stop.1 m.stop.2 hs
  generalize m.stop.1 ++ [] = R2 at *
  have H2 : Hid (∀ W : World, Gr W b t (countL m.hashes.length ++ (m.hashes.flatMap (fun x : Id32 => x.1) ++ R2)) → Calls Tryz.prog 83 #[.agg #[.pointer (some ⟨b, 0, none⟩), .string t], .int .u64 64, .func (.func 84) #[.pointer (some ⟨b, 0, none⟩)] #[]] W fun e w' => ∃ u, e = .returned u ∧ OX KH w' u m.hashes ∧ (∀ g, u.ownBlock = some g → W.heap.size ≤ g) ∧ Gr w' b t R2 ∧ Rfr b W w') := fun W g => list_hash m.hashes b t R2 hn hs W g
  generalize countL m.hashes.length ++ (m.hashes.flatMap (fun x : Id32 => x.1) ++ R2) = R1 at *
  have H1 : Hid (∀ W, Gr W b t (lowL m.vers.toNat 4 ++ R1) → Calls Tryz.prog 82 #[.pointer (some ⟨b, 0, none⟩)] W fun e w' => e = .returned (.int .u32 (m.vers.toNat : Int)) ∧ Gr w' b t R1 ∧ Rfr b W w') := fun W g => g.u32 m.vers.toNat m.vers.toNat_lt hs
  have HB := hide (fun W => bare_any 11 W)
  have HO := hide ((bareM 11 0).one nil8 nil8_ok)
  have HZ := hide ((bareM 11 0).size nil8)
  have HZm := hide (zM.size nil8)
  have hsz : (w.alloc (.cells #[.pointer (some ⟨b, 0, none⟩), .string t] 85)).heap.size = w.heap.size + 1 := by simp
  have ST : Hid (∀ W1, Below ((w.alloc (.cells #[.pointer (some ⟨b, 0, none⟩), .string t] 85)).alloc (.cells (zM.cells nil8).toArray 38)).heap.size ((w.alloc (.cells #[.pointer (some ⟨b, 0, none⟩), .string t] 85)).alloc (.cells (zM.cells nil8).toArray 38)) W1 → _) := fun W1 be => Ma.start 11 h be
  clear h hs he hk ep
  go_enter Tryz.func32, Tryz.ntmps32
  go_upto_region 1 with (with_reducible refine at_list ?_; first | refine wpList_boxA rfl _ rfl #[.pointer (some ⟨b, 0, none⟩), .string t] rfl ?_ | refine wpList_allocA AM rfl rfl ?_)
  rw [hsz]
  clear hsz
  generalize (w.alloc (.cells #[.pointer (some ⟨b, 0, none⟩), .string t] 85)).alloc (.cells (zM.cells nil8).toArray 38) = W0 at *
  go_upto_region 2 with (first | (go_at_call 17; refine (HB.out _).mono ?_; rintro e W1 ⟨rfl, be⟩; have B1 := hide be; clear be) | (with_reducible refine at_list ?_; first | refine wpList_allocA AM rfl rfl ?_ | refine wpList_store_newA AM rfl _ _ rfl _ rfl ((bareM 11 0).cells nil8).toArray HZ.out HO.out rfl rfl ?_))
  have MA := hide (ST.out W1 B1.out).1
  have J0 := hide (ST.out W1 B1.out).2
  clear ST B1 HB HO HZ
  generalize W1.heap.size = g5 at *
  generalize W1.alloc (.cells ((bareM 11 0).cells nil8).toArray 38) = A at *
  have P1 := hide (MA.out.px _ J0.out.fr)
  have c0 : _ = some (Value.pointer (some ⟨b, 0, none⟩)) := (cell_of_row _ _ 0 _ _ _ P1.out).trans rfl
  go_upto_region 16 with (go_at_call 82; refine (H1.out _ J0.out.rd).mono ?_; rintro e W1 ⟨rfl, g1, f1⟩; have K1 := hide (J0.out.read g1 f1); have f3 := K1.out.frozen 1; have c3 := K1.out.cell 1 (by decide); clear g1 f1)
  have J1 := hide (K1.out.vers m.vers)
  clear J0 K1 H1 c0 P1 c3 f3
  generalize W1.setCell ⟨g5, 1, none⟩ (.int .u32 (m.vers.toNat : Int)) = V1 at *
  have P2 := hide (MA.out.px _ J1.out.fr)
  have c0 : _ = some (Value.pointer (some ⟨b, 0, none⟩)) := (cell_of_row _ _ 0 _ _ _ P2.out).trans rfl
  go_upto_region 17 with (first | (go_at_call 83; refine (H2.out _ J1.out.rd).mono ?_; rintro e W2 ⟨u2, rfl, o1, far, g1, f1⟩; obtain ⟨ao2, cp2, rfl⟩ := o1.form; have K2 := hide (J1.out.read g1 f1); have O2 := hide o1; have N2 := hide (J1.out.far far); have f3 := K2.out.frozen 49; have c3 := K2.out.cell 49 (by decide); clear g1 f1 o1 far) | ((with_reducible refine at_list ?_); refine wpList_loadS APa _ rfl w.heap.size rfl #[.pointer (some ⟨b, 0, none⟩), .string t] rfl 85 P2.out (by rfl) ?_))
  have J2 := hide (K2.out.hashes _ m.hashes O2.out N2.out)
  clear J1 K2 H2 P2 c3 f3 O2 N2 c0
  generalize W2.setCell ⟨g5, 49, none⟩ (.slice ao2 m.hashes.length cp2) = V2 at *
  have P3 := hide (MA.out.px _ J2.out.fr)
  have c0 : _ = some (Value.pointer (some ⟨b, 0, none⟩)) := (cell_of_row _ _ 0 _ _ _ P3.out).trans rfl
  go_upto_region 35 with (first | (go_at_call 84; refine (H3.out _ J2.out.rd).mono ?_; rintro e W3 ⟨rfl, g1, f1⟩; have K3 := hide (J2.out.read g1 f1); clear g1 f1) | ((with_reducible refine at_list ?_); refine wpList_store_mid rfl 32 _ _ rfl g5 50 (hc m.stop.1) rfl rfl (by rw [hc_size, m.stop.2]; exact K3.out.there 50 32 (by decide)) (by rw [hc_size, m.stop.2]; kernel_rfl) (hc_one _) ?_))
  have J3 := hide (K3.out.stop m.stop)
  clear J2 K3 H3 c0 P3
  change Code.wp _ _ _ _ (W3.setCells g5 50 (cellsL m.stop.1))
  generalize W3.setCells g5 50 (cellsL m.stop.1) = V3 at *
  have JE := hide (J3.out.to (m' := m) EM.out)
  have R5 := hide JE.out.row
  have R4 := hide (MA.out.ga _ JE.out.fr)
  have FF := hide (MA.out.fin JE.out)
  have HOv := hide (m.one _ (JE.out.ls _ (Rfk.refl _ _)).ok)
  have HZv := hide (m.size (nil8.ath (.slice ao2 m.hashes.length cp2)))
  clear J3 JE MA EM
  have A0 := AM
  generalize hD : (m.cells (nil8.ath (.slice ao2 m.hashes.length cp2))).toArray = D at *
  generalize (zM.cells nil8).toArray = Z at *
  go_wp2_with ((with_reducible refine at_list ?_); first | refine wpList_loadS A0 _ rfl g5 rfl D HZv.out 38 R5.out rfl ?_ | refine wpList_storeA A0 rfl _ _ rfl (w.heap.size + 1) D HZv.out HOv.out rfl rfl Z HZm.out 38 R4.out ?_)
  refine bodyPost_ret (resA A0 rfl _ _ _ _ D HZv.out rfl FF.out.2.2.2) rfl ?_
  exact ⟨_, by rw [hD], FF.out.1, FF.out.2.1, FF.out.2.2.1⟩
end
section
set_option maxRecDepth 10000
set_option maxHeartbeats 2000000
theorem msg_17 (m : Mg) (hk : m.kind = 17) (he : m = m.namedK) (hn : m.places.length ≤ 500) (hr : riseP (-1) m.places) {w : World} {b : Nat} {t : ByteArray} (h : Gr w b t m.pay) (hs : t.size ≤ maxLen) : Calls Tryz.prog 32 #[.agg #[.pointer (some ⟨b, 0, none⟩), .string t], .int .i64 17] w fun e w' => ∃ v', e = .returned (.agg (m.cells v').toArray) ∧ Gr w' b t [] ∧ (∀ W', Rfk (fun j => j < w.heap.size) w' W' → ML W' v' m) ∧ Rfr b w w' := by
  have EM := hide (show ({ zM with kind := 17, hash := m.hash, places := m.places } : Mg) = m from (he.trans (show m.namedK = { zM with kind := 17, hash := m.hash, places := m.places } by unfold Mg.namedK; simp [hk])).symm)
  have ep : m.pay = m.hash.1 ++ (countL m.places.length ++ gapsL (-1) m.places) := by unfold Mg.pay; simp [hk]
  rw [ep, ← List.append_nil (m.hash.1 ++ (countL m.places.length ++ gapsL (-1) m.places))] at h
  try simp only [List.append_assoc] at h
  have lb := h.lt
  have H2 : Hid (∀ V : World, Gr V b t (countL m.places.length ++ (gapsL (-1) m.places ++ [])) → V.heap[w.heap.size]? = some (.cells #[.pointer (some ⟨b, 0, none⟩), .string t] 85 (0, 0)) → Calls Tryz.prog 91 #[.agg #[.pointer (some ⟨b, 0, none⟩), .string t], .int .u64 500, .func (.func 92) #[] #[.pointer (some ⟨w.heap.size, 0, none⟩), .pointer (some ⟨V.heap.size, 0, none⟩)]] (V.alloc (.cells #[.int .i64 (-1)] 3)) fun e w' => ∃ u, e = .returned u ∧ OX KP w' u m.places ∧ (∀ g, u.ownBlock = some g → V.heap.size ≤ g) ∧ Gr w' b t [] ∧ Rfr b V w') := fun V g e => places_on m.places b w.heap.size t [] hn hr hs (by omega) V g e
  clear lb
  generalize countL m.places.length ++ (gapsL (-1) m.places ++ []) = R1 at *
  have H1 : Hid (∀ W, Gr W b t (m.hash.1 ++ R1) → Calls Tryz.prog 84 #[.pointer (some ⟨b, 0, none⟩)] W fun e w' => e = .returned (.agg (hc m.hash.1)) ∧ Gr w' b t R1 ∧ Rfr b W w') := fun W g => g.hash m.hash.1 m.hash.2 hs
  have HB := hide (fun W => bare_any 17 W)
  have HO := hide ((bareM 17 0).one nil8 nil8_ok)
  have HZ := hide ((bareM 17 0).size nil8)
  have HZm := hide (zM.size nil8)
  have hsz : (w.alloc (.cells #[.pointer (some ⟨b, 0, none⟩), .string t] 85)).heap.size = w.heap.size + 1 := by simp
  have ST : Hid (∀ W1, Below ((w.alloc (.cells #[.pointer (some ⟨b, 0, none⟩), .string t] 85)).alloc (.cells (zM.cells nil8).toArray 38)).heap.size ((w.alloc (.cells #[.pointer (some ⟨b, 0, none⟩), .string t] 85)).alloc (.cells (zM.cells nil8).toArray 38)) W1 → _) := fun W1 be => Ma.start 17 h be
  clear h hs he hk ep
  go_enter Tryz.func32, Tryz.ntmps32
  go_upto_region 1 with (with_reducible refine at_list ?_; first | refine wpList_boxA rfl _ rfl #[.pointer (some ⟨b, 0, none⟩), .string t] rfl ?_ | refine wpList_allocA AM rfl rfl ?_)
  rw [hsz]
  clear hsz
  generalize (w.alloc (.cells #[.pointer (some ⟨b, 0, none⟩), .string t] 85)).alloc (.cells (zM.cells nil8).toArray 38) = W0 at *
  go_upto_region 2 with (first | (go_at_call 17; refine (HB.out _).mono ?_; rintro e W1 ⟨rfl, be⟩; have B1 := hide be; clear be) | (with_reducible refine at_list ?_; first | refine wpList_allocA AM rfl rfl ?_ | refine wpList_store_newA AM rfl _ _ rfl _ rfl ((bareM 17 0).cells nil8).toArray HZ.out HO.out rfl rfl ?_))
  have MA := hide (ST.out W1 B1.out).1
  have J0 := hide (ST.out W1 B1.out).2
  clear ST B1 HB HO HZ
  generalize W1.heap.size = g5 at *
  generalize W1.alloc (.cells ((bareM 17 0).cells nil8).toArray 38) = A at *
  have P1 := hide (MA.out.px _ J0.out.fr)
  have c0 : _ = some (Value.pointer (some ⟨b, 0, none⟩)) := (cell_of_row _ _ 0 _ _ _ P1.out).trans rfl
  go_upto_region 30 with (first | (go_at_call 84; refine (H1.out _ J0.out.rd).mono ?_; rintro e W1 ⟨rfl, g1, f1⟩; have K1 := hide (J0.out.read g1 f1); clear g1 f1) | ((with_reducible refine at_list ?_); refine wpList_store_mid rfl 32 _ _ rfl g5 82 (hc m.hash.1) rfl rfl (by rw [hc_size, m.hash.2]; exact K1.out.there 82 32 (by decide)) (by rw [hc_size, m.hash.2]; kernel_rfl) (hc_one _) ?_))
  have J1 := hide (K1.out.hash m.hash)
  clear J0 K1 H1 c0 P1
  change Code.wp _ _ _ _ (W1.setCells g5 82 (cellsL m.hash.1))
  generalize W1.setCells g5 82 (cellsL m.hash.1) = V1 at *
  have P2 := hide (MA.out.px _ J1.out.fr)
  go_upto_region 31 with fail
  have PA := hide (((Below.refl V1.heap.size V1).alloc (Nat.le_refl _) (.cells #[.int .i64 (-1)] 3)).block _ (lt_heap P2.out) |>.trans P2.out)
  have HF := hide (H2.out V1 J1.out.rd P2.out)
  clear H2 P2
  generalize V1.alloc (.cells #[.int .i64 (-1)] 3) = VA at *
  go_upto_region 35 with (first | (go_at_call 91; refine HF.out.mono ?_; rintro e W2 ⟨u2, rfl, o1, far, g1, f1⟩; obtain ⟨ao2, cp2, rfl⟩ := o1.form; have K2 := hide (J1.out.read g1 f1); have O2 := hide o1; have N2 := hide (J1.out.far far); have f3 := K2.out.frozen 119; have c3 := K2.out.cell 119 (by decide); clear g1 f1 o1 far) | ((with_reducible refine at_list ?_); refine wpList_loadS APa _ rfl w.heap.size rfl #[.pointer (some ⟨b, 0, none⟩), .string t] rfl 85 PA.out (by rfl) ?_))
  have J2 := hide (K2.out.places _ m.places O2.out N2.out)
  clear J1 K2 HF PA c3 f3 O2 N2
  generalize W2.setCell ⟨g5, 119, none⟩ (.slice ao2 m.places.length cp2) = V2 at *
  have JE := hide (J2.out.to (m' := m) EM.out)
  have R5 := hide JE.out.row
  have R4 := hide (MA.out.ga _ JE.out.fr)
  have FF := hide (MA.out.fin JE.out)
  have HOv := hide (m.one _ (JE.out.ls _ (Rfk.refl _ _)).ok)
  have HZv := hide (m.size (nil8.atp (.slice ao2 m.places.length cp2)))
  clear J2 JE MA EM
  have A0 := AM
  generalize hD : (m.cells (nil8.atp (.slice ao2 m.places.length cp2))).toArray = D at *
  generalize (zM.cells nil8).toArray = Z at *
  go_wp2_with ((with_reducible refine at_list ?_); first | refine wpList_loadS A0 _ rfl g5 rfl D HZv.out 38 R5.out rfl ?_ | refine wpList_storeA A0 rfl _ _ rfl (w.heap.size + 1) D HZv.out HOv.out rfl rfl Z HZm.out 38 R4.out ?_)
  refine bodyPost_ret (resA A0 rfl _ _ _ _ D HZv.out rfl FF.out.2.2.2) rfl ?_
  exact ⟨_, by rw [hD], FF.out.1, FF.out.2.1, FF.out.2.2.1⟩
end
section
set_option maxRecDepth 10000
set_option maxHeartbeats 2000000
theorem msg_18 (m : Mg) (hk : m.kind = 18) (he : m = m.namedK) (hn : m.raws.length ≤ 500) (h8 : ∀ x ∈ m.raws, x.size ≤ 4096) {w : World} {b : Nat} {t : ByteArray} (h : Gr w b t m.pay) (hs : t.size ≤ maxLen) : Calls Tryz.prog 32 #[.agg #[.pointer (some ⟨b, 0, none⟩), .string t], .int .i64 18] w fun e w' => ∃ v', e = .returned (.agg (m.cells v').toArray) ∧ Gr w' b t [] ∧ (∀ W', Rfk (fun j => j < w.heap.size) w' W' → ML W' v' m) ∧ Rfr b w w' := by
  have EM := hide (show ({ zM with kind := 18, hash := m.hash, raws := m.raws } : Mg) = m from (he.trans (show m.namedK = { zM with kind := 18, hash := m.hash, raws := m.raws } by unfold Mg.namedK; simp [hk])).symm)
  have ep : m.pay = m.hash.1 ++ (countL m.raws.length ++ m.raws.flatMap rawL) := by unfold Mg.pay; simp [hk]
  rw [ep, ← List.append_nil (m.hash.1 ++ (countL m.raws.length ++ m.raws.flatMap rawL))] at h
  try simp only [List.append_assoc] at h
  have H2 : Hid (∀ W : World, Gr W b t (countL m.raws.length ++ (m.raws.flatMap rawL ++ [])) → Calls Tryz.prog 85 #[.agg #[.pointer (some ⟨b, 0, none⟩), .string t], .int .u64 500, .func (.func 94) #[.agg #[.pointer (some ⟨b, 0, none⟩), .string t]] #[]] W fun e w' => ∃ u, e = .returned u ∧ OX KS w' u m.raws ∧ (∀ g, u.ownBlock = some g → W.heap.size ≤ g) ∧ Gr w' b t [] ∧ Rfr b W w') := fun W g => list_raw m.raws b t [] hn h8 hs W g
  generalize countL m.raws.length ++ (m.raws.flatMap rawL ++ []) = R1 at *
  have H1 : Hid (∀ W, Gr W b t (m.hash.1 ++ R1) → Calls Tryz.prog 84 #[.pointer (some ⟨b, 0, none⟩)] W fun e w' => e = .returned (.agg (hc m.hash.1)) ∧ Gr w' b t R1 ∧ Rfr b W w') := fun W g => g.hash m.hash.1 m.hash.2 hs
  have HB := hide (fun W => bare_any 18 W)
  have HO := hide ((bareM 18 0).one nil8 nil8_ok)
  have HZ := hide ((bareM 18 0).size nil8)
  have HZm := hide (zM.size nil8)
  have hsz : (w.alloc (.cells #[.pointer (some ⟨b, 0, none⟩), .string t] 85)).heap.size = w.heap.size + 1 := by simp
  have ST : Hid (∀ W1, Below ((w.alloc (.cells #[.pointer (some ⟨b, 0, none⟩), .string t] 85)).alloc (.cells (zM.cells nil8).toArray 38)).heap.size ((w.alloc (.cells #[.pointer (some ⟨b, 0, none⟩), .string t] 85)).alloc (.cells (zM.cells nil8).toArray 38)) W1 → _) := fun W1 be => Ma.start 18 h be
  clear h hs he hk ep
  go_enter Tryz.func32, Tryz.ntmps32
  go_upto_region 1 with (with_reducible refine at_list ?_; first | refine wpList_boxA rfl _ rfl #[.pointer (some ⟨b, 0, none⟩), .string t] rfl ?_ | refine wpList_allocA AM rfl rfl ?_)
  rw [hsz]
  clear hsz
  generalize (w.alloc (.cells #[.pointer (some ⟨b, 0, none⟩), .string t] 85)).alloc (.cells (zM.cells nil8).toArray 38) = W0 at *
  go_upto_region 2 with (first | (go_at_call 17; refine (HB.out _).mono ?_; rintro e W1 ⟨rfl, be⟩; have B1 := hide be; clear be) | (with_reducible refine at_list ?_; first | refine wpList_allocA AM rfl rfl ?_ | refine wpList_store_newA AM rfl _ _ rfl _ rfl ((bareM 18 0).cells nil8).toArray HZ.out HO.out rfl rfl ?_))
  have MA := hide (ST.out W1 B1.out).1
  have J0 := hide (ST.out W1 B1.out).2
  clear ST B1 HB HO HZ
  generalize W1.heap.size = g5 at *
  generalize W1.alloc (.cells ((bareM 18 0).cells nil8).toArray 38) = A at *
  have P1 := hide (MA.out.px _ J0.out.fr)
  have c0 : _ = some (Value.pointer (some ⟨b, 0, none⟩)) := (cell_of_row _ _ 0 _ _ _ P1.out).trans rfl
  go_upto_region 34 with (first | (go_at_call 84; refine (H1.out _ J0.out.rd).mono ?_; rintro e W1 ⟨rfl, g1, f1⟩; have K1 := hide (J0.out.read g1 f1); clear g1 f1) | ((with_reducible refine at_list ?_); refine wpList_store_mid rfl 32 _ _ rfl g5 82 (hc m.hash.1) rfl rfl (by rw [hc_size, m.hash.2]; exact K1.out.there 82 32 (by decide)) (by rw [hc_size, m.hash.2]; kernel_rfl) (hc_one _) ?_))
  have J1 := hide (K1.out.hash m.hash)
  clear J0 K1 H1 c0 P1
  change Code.wp _ _ _ _ (W1.setCells g5 82 (cellsL m.hash.1))
  generalize W1.setCells g5 82 (cellsL m.hash.1) = V1 at *
  have P2 := hide (MA.out.px _ J1.out.fr)
  go_upto_region 35 with (first | (go_at_call 85; refine (H2.out _ J1.out.rd).mono ?_; rintro e W2 ⟨u2, rfl, o1, far, g1, f1⟩; obtain ⟨ao2, cp2, rfl⟩ := o1.form; have K2 := hide (J1.out.read g1 f1); have O2 := hide o1; have N2 := hide (J1.out.far far); have f3 := K2.out.frozen 120; have c3 := K2.out.cell 120 (by decide); clear g1 f1 o1 far) | ((with_reducible refine at_list ?_); refine wpList_loadS APa _ rfl w.heap.size rfl #[.pointer (some ⟨b, 0, none⟩), .string t] rfl 85 P2.out (by rfl) ?_))
  have J2 := hide (K2.out.raws _ m.raws O2.out N2.out)
  clear J1 K2 H2 P2 c3 f3 O2 N2
  generalize W2.setCell ⟨g5, 120, none⟩ (.slice ao2 m.raws.length cp2) = V2 at *
  have JE := hide (J2.out.to (m' := m) EM.out)
  have R5 := hide JE.out.row
  have R4 := hide (MA.out.ga _ JE.out.fr)
  have FF := hide (MA.out.fin JE.out)
  have HOv := hide (m.one _ (JE.out.ls _ (Rfk.refl _ _)).ok)
  have HZv := hide (m.size (nil8.atr (.slice ao2 m.raws.length cp2)))
  clear J2 JE MA EM
  have A0 := AM
  generalize hD : (m.cells (nil8.atr (.slice ao2 m.raws.length cp2))).toArray = D at *
  generalize (zM.cells nil8).toArray = Z at *
  go_wp2_with ((with_reducible refine at_list ?_); first | refine wpList_loadS A0 _ rfl g5 rfl D HZv.out 38 R5.out rfl ?_ | refine wpList_storeA A0 rfl _ _ rfl (w.heap.size + 1) D HZv.out HOv.out rfl rfl Z HZm.out 38 R4.out ?_)
  refine bodyPost_ret (resA A0 rfl _ _ _ _ D HZv.out rfl FF.out.2.2.2) rfl ?_
  exact ⟨_, by rw [hD], FF.out.1, FF.out.2.1, FF.out.2.2.1⟩
end
end Go.Proofs.YtkoidjaaojmcnaaGreat
