/- slices.Clone of outputs, inputs and transactions: the contracts. block.Coinbase: its contracts. -/
import Derived.Test.YtofddbjnncgmlabGreatDoorX26
import Derived.Test.YtofddbjnncgmlabGreatDoorX27
namespace Go.Proofs.YtofddbjnncgmlabGreatDoor
open Go.RowKit
open Go.Deep
set_option linter.unusedVariables false
/-! ### Out -/
theorem eqslO (ao : Option Addr) (n c : Nat) (w : World) : (binOp .eql 88 (.slice ao n c) (.slice none 0 0)).run Tryz.prog w = .ok (.bool ao.isNone) w := by
  cases ao <;> kernel_rfl
theorem bs0O (w : World) : (Instr.buildSlice 88 0 #[]).run Tryz.prog w = .ok (.slice (some ⟨w.heap.size, 0, none⟩) 0 0) (w.alloc (.cells #[] 70)) := by
  kernel_rfl
section
set_option maxRecDepth 10000
set_option maxHeartbeats 4000000
theorem cloneO_any (v : Value) (L : List Tu) (w : World) (h : LX KO w v L) (hz : L.length * 24 ≤ 140737488355328) : Calls Tryz.prog 65 #[v] w fun e w' => ∃ v', e = .returned v' ∧ OX KO w' v' L ∧ Below w.heap.size w w' ∧ ∀ g, v'.ownBlock = some g → w.heap.size ≤ g := by
  obtain ⟨ao, cap, rfl⟩ := h.form
  rcases ao with _ | ad
  · have hL : L = [] := by
      rcases L with _ | ⟨x, r⟩
      · rfl
      · obtain ⟨_, _, e⟩ := h.base (by simp)
        cases e
    subst hL
    have hq := eqslO none 0 cap
    clear h
    go_enter Tryz.func65, Tryz.ntmps65
    go_wp2
    go_ret
    exact ⟨_, rfl, OX.nil _, Below.refl _ _, fun g hg => by cases hg⟩
  · have hq := eqslO (some ad) L.length cap
    have h5 := bs0O
    have O0 : Hid (OX KO (w.alloc (.cells #[] 70)) (.slice (some ⟨w.heap.size, 0, none⟩) 0 0) []) := World.ownsRow_made w #[] 0 (Nat.zero_le _) (Nat.zero_le _) rfl
    have HB := hide ((Below.refl w.heap.size w).alloc (Nat.le_refl _) (.cells #[] 70))
    have HN := hide (LX.news (h.below HB.out))
    have HZ : Hid (([] : List Tu).length + L.length ≤ maxLen ∧ (([] : List Tu).length + L.length) * KO.b ≤ 140737488355328) := ⟨show 0 + L.length ≤ 9223372036854775807 by omega, show (0 + L.length) * 24 ≤ _ by omega⟩
    clear h hz
    go_enter Tryz.func65, Tryz.ntmps65
    go_wp2_with (at_builtin; refine Ek.wpApp KO rfl _ _ rfl _ [] rfl O0.out ad L.length cap L rfl rfl HN.out HZ.out.2 HZ.out.1 ?_; intro v' w' ho on; have OB := hide (And.intro ho on); clear ho on)
    go_ret
    obtain ⟨o, on⟩ := OB.out
    have hsz : w.heap.size ≤ (w.alloc (.cells #[] 70)).heap.size := HB.out.size
    exact ⟨_, rfl, o, HB.out.trans (on.below hsz (fun k hk => by cases hk; exact Nat.le_refl _)), on.far hsz (fun k hk => by cases hk; exact Nat.le_refl _)⟩
end
/-! ### In -/
theorem eqslA (ao : Option Addr) (n c : Nat) (w : World) : (binOp .eql 87 (.slice ao n c) (.slice none 0 0)).run Tryz.prog w = .ok (.bool ao.isNone) w := by
  cases ao <;> kernel_rfl
theorem bs0A (w : World) : (Instr.buildSlice 87 0 #[]).run Tryz.prog w = .ok (.slice (some ⟨w.heap.size, 0, none⟩) 0 0) (w.alloc (.cells #[] 96)) := by
  kernel_rfl
section
set_option maxRecDepth 10000
set_option maxHeartbeats 4000000
theorem cloneA_any (v : Value) (L : List Ti) (w : World) (h : LX KA w v L) (hz : L.length * 64 ≤ 140737488355328) : Calls Tryz.prog 136 #[v] w fun e w' => ∃ v', e = .returned v' ∧ OX KA w' v' L ∧ Below w.heap.size w w' ∧ ∀ g, v'.ownBlock = some g → w.heap.size ≤ g := by
  obtain ⟨ao, cap, rfl⟩ := h.form
  rcases ao with _ | ad
  · have hL : L = [] := by
      rcases L with _ | ⟨x, r⟩
      · rfl
      · obtain ⟨_, _, e⟩ := h.base (by simp)
        cases e
    subst hL
    have hq := eqslA none 0 cap
    clear h
    go_enter Tryz.func136, Tryz.ntmps136
    go_wp2
    go_ret
    exact ⟨_, rfl, OX.nil _, Below.refl _ _, fun g hg => by cases hg⟩
  · have hq := eqslA (some ad) L.length cap
    have h5 := bs0A
    have O0 : Hid (OX KA (w.alloc (.cells #[] 96)) (.slice (some ⟨w.heap.size, 0, none⟩) 0 0) []) := World.ownsRow_made w #[] 0 (Nat.zero_le _) (Nat.zero_le _) rfl
    have HB := hide ((Below.refl w.heap.size w).alloc (Nat.le_refl _) (.cells #[] 96))
    have HN := hide (LX.news (h.below HB.out))
    have HZ : Hid (([] : List Ti).length + L.length ≤ maxLen ∧ (([] : List Ti).length + L.length) * KA.b ≤ 140737488355328) := ⟨show 0 + L.length ≤ 9223372036854775807 by omega, show (0 + L.length) * 64 ≤ _ by omega⟩
    clear h hz
    go_enter Tryz.func136, Tryz.ntmps136
    go_wp2_with (at_builtin; refine Ek.wpApp KA rfl _ _ rfl _ [] rfl O0.out ad L.length cap L rfl rfl HN.out HZ.out.2 HZ.out.1 ?_; intro v' w' ho on; have OB := hide (And.intro ho on); clear ho on)
    go_ret
    obtain ⟨o, on⟩ := OB.out
    have hsz : w.heap.size ≤ (w.alloc (.cells #[] 96)).heap.size := HB.out.size
    exact ⟨_, rfl, o, HB.out.trans (on.below hsz (fun k hk => by cases hk; exact Nat.le_refl _)), on.far hsz (fun k hk => by cases hk; exact Nat.le_refl _)⟩
end
/-! ### Tx -/
theorem eqslT (ao : Option Addr) (n c : Nat) (w : World) : (binOp .eql 28 (.slice ao n c) (.slice none 0 0)).run Tryz.prog w = .ok (.bool ao.isNone) w := by
  cases ao <;> kernel_rfl
theorem bs0T (w : World) : (Instr.buildSlice 28 0 #[]).run Tryz.prog w = .ok (.slice (some ⟨w.heap.size, 0, none⟩) 0 0) (w.alloc (.cells #[] 90)) := by
  kernel_rfl
section
set_option maxRecDepth 10000
set_option maxHeartbeats 4000000
theorem cloneT_any (v : Value) (L : List Tq) (w : World) (h : LX KT w v L) (hz : L.length * 64 ≤ 140737488355328) : Calls Tryz.prog 135 #[v] w fun e w' => ∃ v', e = .returned v' ∧ OX KT w' v' L ∧ Below w.heap.size w w' ∧ ∀ g, v'.ownBlock = some g → w.heap.size ≤ g := by
  obtain ⟨ao, cap, rfl⟩ := h.form
  rcases ao with _ | ad
  · have hL : L = [] := by
      rcases L with _ | ⟨x, r⟩
      · rfl
      · obtain ⟨_, _, e⟩ := h.base (by simp)
        cases e
    subst hL
    have hq := eqslT none 0 cap
    clear h
    go_enter Tryz.func135, Tryz.ntmps135
    go_wp2
    go_ret
    exact ⟨_, rfl, OX.nil _, Below.refl _ _, fun g hg => by cases hg⟩
  · have hq := eqslT (some ad) L.length cap
    have h5 := bs0T
    have O0 : Hid (OX KT (w.alloc (.cells #[] 90)) (.slice (some ⟨w.heap.size, 0, none⟩) 0 0) []) := World.ownsRow_made w #[] 0 (Nat.zero_le _) (Nat.zero_le _) rfl
    have HB := hide ((Below.refl w.heap.size w).alloc (Nat.le_refl _) (.cells #[] 90))
    have HN := hide (LX.news (h.below HB.out))
    have HZ : Hid (([] : List Tq).length + L.length ≤ maxLen ∧ (([] : List Tq).length + L.length) * KT.b ≤ 140737488355328) := ⟨show 0 + L.length ≤ 9223372036854775807 by omega, show (0 + L.length) * 64 ≤ _ by omega⟩
    clear h hz
    go_enter Tryz.func135, Tryz.ntmps135
    go_wp2_with (at_builtin; refine Ek.wpApp KT rfl _ _ rfl _ [] rfl O0.out ad L.length cap L rfl rfl HN.out HZ.out.2 HZ.out.1 ?_; intro v' w' ho on; have OB := hide (And.intro ho on); clear ho on)
    go_ret
    obtain ⟨o, on⟩ := OB.out
    have hsz : w.heap.size ≤ (w.alloc (.cells #[] 90)).heap.size := HB.out.size
    exact ⟨_, rfl, o, HB.out.trans (on.below hsz (fun k hk => by cases hk; exact Nat.le_refl _)), on.far hsz (fun k hk => by cases hk; exact Nat.le_refl _)⟩
end
end Go.Proofs.YtofddbjnncgmlabGreatDoor
namespace Go.Proofs.YtofddbjnncgmlabGreatDoor
open Go.RowKit
open Go.Deep
set_option linter.unusedVariables false
/-- A coinbase's input. -/
def cbI (k : ByteArray) : Ti := ⟨zeros, 4294967295, k, 4294967295, zeros_len⟩
/-- The coinbase of a height. -/
def cbT (n : Nat) (x : ByteArray) (L : List Tu) : Tm := ⟨1, [cbI (txt (lowL n 4 ++ x.data.toList))], L, 0⟩
theorem bld_cbI (k : ByteArray) (W : World) : (Instr.build 96 #[(0, .agg nullP.cells.toArray), (1, .string k), (2, .int .u32 4294967295)]).run Tryz.prog W = .ok (.agg (cbI k).cells.toArray) W := by kernel_rfl
theorem bld_cbT (a : Option Addr) (n c : Nat) (b : Option Addr) (m d : Nat) (W : World) : (Instr.build 90 #[(0, .int .u32 1), (1, .slice a n c), (2, .slice b m d)]).run Tryz.prog W = .ok (.agg #[.int .u32 1, .slice a n c, .slice b m d, .int .u32 0]) W := by kernel_rfl
theorem bld_0T (W : World) : (Instr.build 90 #[]).run Tryz.prog W = .ok (.agg (zT.cells none 0 none 0)) W := by kernel_rfl
theorem LX.of_row {W : World} {g : Nat} {t : TypeId} {x : Ti} (h : W.heap[g]? = some (.cells x.cells.toArray t (0, 0))) : LX KA W (.slice (some ⟨g, 0, none⟩) 1 1) [x] :=
  ⟨_, 1, rfl, Nat.le_refl _, fun i hi => by
    have h0 : i = 0 := by simpa using hi
    subst h0
    refine ⟨g, 0, rfl, lt_heap h, ?_⟩
    rw [Nat.zero_mul]
    exact rowAt _ h⟩
section
set_option maxRecDepth 10000
set_option maxHeartbeats 4000000
theorem cbase_no (n : Int) (x : ByteArray) (v : Value) (w : World) (hn : n < 0 ∨ 2147483647 < n ∨ 96 < x.size) : Calls Tryz.prog 28 #[.int .i64 n, .string x, v] w fun e w' => e = .returned (.tuple #[.agg (zT.cells none 0 none 0), .int .i64 1]) ∧ Below w.heap.size w w' := by
  have b1 := (Below.refl w.heap.size w).alloc (Nat.le_refl _) (.cells (zT.cells none 0 none 0) 90)
  have R1 := hide (heap_alloc_last w (.cells (zT.cells none 0 none 0) 90))
  have B1 := hide b1
  clear b1
  have key : (decide (n < 0) = true) ∨ (decide (n < 0) = false ∧ decide (n > 2147483647) = true) ∨ (decide (n < 0) = false ∧ decide (n > 2147483647) = false ∧ decide ((x.size : Int) > 96) = true) := by
    by_cases h1 : n < 0
    · exact .inl (decide_eq_true h1)
    · by_cases h2 : 2147483647 < n
      · exact .inr (.inl ⟨decide_eq_false h1, decide_eq_true h2⟩)
      · exact .inr (.inr ⟨decide_eq_false h1, decide_eq_false h2, decide_eq_true (by omega)⟩)
  clear hn
  go_enter Tryz.func28, Tryz.ntmps28
  go_upto_region 1 with ((with_reducible refine at_list ?_); refine wpList_allocA AT rfl rfl ?_)
  generalize w.alloc (.cells (zT.cells none 0 none 0) 90) = W0 at *
  rcases key with h1 | ⟨h1, h2⟩ | ⟨h1, h2, h3⟩
  all_goals
    go_wp2_with ((with_reducible refine at_list ?_); first | refine wpList_buildA AT rfl rfl ?_ | (refine wpList_storeA AT rfl _ _ rfl w.heap.size (zT.cells none 0 none 0) rfl (zT.one _ _ _ _) rfl rfl (zT.cells none 0 none 0) rfl 90 R1.out ?_))
    exact bodyPost_ret (v := .tuple #[.agg (zT.cells none 0 none 0), .int .i64 1]) (resA2K AT Tryz.results28 _ _ w.heap.size 90 _ rfl rfl (setRow_heap _ _ _ _ _ _ R1.out) _ rfl) rfl ⟨rfl, below_setRow B1.out (Nat.le_refl _) _⟩
theorem cbase_yes (n : Nat) (x : ByteArray) (v : Value) (L : List Tu) (w : World) (hn : n ≤ 2147483647) (hx : x.size ≤ 96) (hL : LX KO w v L) (hz : L.length * 24 ≤ 140737488355328) : Calls Tryz.prog 28 #[.int .i64 (n : Int), .string x, v] w fun e w' => ∃ ai ci ao co, e = .returned (.tuple #[.agg ((cbT n x L).cells ai ci ao co), .int .i64 0]) ∧ LT w' (cbT n x L) ai ci ao co ∧ Below w.heap.size w w' := by
  obtain ⟨av, cv, rfl⟩ := hL.form
  have b1 := (Below.refl w.heap.size w).alloc (Nat.le_refl _) (.cells (zT.cells none 0 none 0) 90)
  have R1 := hide (heap_alloc_last w (.cells (zT.cells none 0 none 0) 90))
  have B1 := hide b1
  have HL := hide (hL.below b1)
  have HX := hide hx
  have HN := hide hn
  have h1 : decide ((n : Int) < 0) = false := decide_eq_false (by omega)
  have h2 : decide ((n : Int) > 2147483647) = false := decide_eq_false (by omega)
  have h3 : decide ((x.size : Int) > 96) = false := decide_eq_false (by omega)
  have e1 : IntKind.u32.wrap (n : Int) = (n : Int) := by rw [IntKind.wrap_u32]; omega
  have HC := hide (fun W l => cloneO_any (.slice av L.length cv) L W l hz)
  have LN := hide (lowL_len n 4)
  clear hL b1 hx hn hz
  go_enter Tryz.func28, Tryz.ntmps28
  go_upto_region 1 with ((with_reducible refine at_list ?_); refine wpList_allocA AT rfl rfl ?_)
  generalize w.alloc (.cells (zT.cells none 0 none 0) 90) = W0 at *
  go_upto_region 3 with fail
  clear h1 h2 h3
  go_upto_region 4 with (go_at_call 55; refine (newWriter_any _).mono ?_; rintro e W2 ⟨rfl, rfl⟩)
  have J0 := hide (Wb.new W0)
  generalize W0.alloc (.cells #[.slice none 0 0] 193) = W1 at *
  generalize hb : W0.heap.size = b at *
  go_upto_region 5 with (go_at_call 57; refine (wU32 (pb b) [] n (by have := HN.out; omega) _ (by simp) J0.out.st).mono ?_; rintro e W2 ⟨rfl, j1, f1⟩; have J1 := hide (J0.out.step j1 f1); clear j1 f1)
  rw [List.nil_append] at J1
  clear J0 e1
  go_upto_region 6 with (go_at_call 64; refine (wBytes (pb b) _ x (.inr (by have := HX.out; omega)) _ (by rw [LN.out]; omega) J1.out.st).mono ?_; rintro e W3 ⟨rfl, j1, f1⟩; have J2 := hide (J1.out.step j1 f1); clear j1 f1)
  have KE : Hid (∃ K, K = txt (lowL n 4 ++ x.data.toList)) := ⟨_, rfl⟩
  obtain ⟨K, hK⟩ := KE.out
  have HW : Hid (Calls Tryz.prog 60 #[pb b] W3 fun e w' => e = .returned (.string K) ∧ w' = W3) := by
    show Calls _ _ _ _ _
    rw [hK]
    exact wText b _ W3 J2.out.st
  have HK := hide hK
  clear hK KE J1
  have XE : Hid (∃ X, X = cbI K) := ⟨_, rfl⟩
  obtain ⟨X, hX⟩ := XE.out
  have HXX := hide hX
  have BI : Hid (∀ W, (Instr.build 96 #[(0, .agg nullP.cells.toArray), (1, .string K), (2, .int .u32 4294967295)]).run Tryz.prog W = .ok (.agg X.cells.toArray) W) := by
    rw [hX]
    exact bld_cbI K
  have BP := hide bldP
  clear hX XE
  have CZ := hide X.size
  have CA := hide X.all
  generalize nullP.cells.toArray = NP at *
  go_upto_region 7 with (first | (go_at_call 60; refine HW.out.mono ?_; rintro e W7 ⟨rfl, h9⟩; subst W7) | ((with_reducible refine at_list ?_); first | refine wpList_bldX rfl _ rfl #[(1, .int .u32 4294967295)] NP (by simp only [List.map_toArray, List.map_cons, List.map_nil]; rfl) BP.out ?_ | refine wpList_bldX rfl _ rfl #[(0, .agg NP), (1, .string K), (2, .int .u32 4294967295)] X.cells.toArray (by simp only [List.map_toArray, List.map_cons, List.map_nil]; rfl) BI.out ?_ | refine wpList_allocA AI rfl rfl ?_ | refine wpList_store_newA AI rfl _ _ rfl _ rfl X.cells.toArray CZ.out CA.out rfl rfl ?_))
  simp only [Act.put, List.setIfInBounds_toArray, List.set_cons_zero, List.set_cons_succ]
  have D4 := hide (below_next J2.out.bel ((Below.refl W3.heap.size W3).alloc (Nat.le_refl _) (.cells X.cells.toArray 96)))
  have R9 := hide (heap_alloc_last W3 (.cells X.cells.toArray 96))
  have NG : Hid (w.heap.size ≠ W3.heap.size) := by
    have := lt_heap R1.out
    have := J2.out.bel.size
    show w.heap.size ≠ W3.heap.size
    omega
  have HL4 := hide (HL.out.below D4.out)
  have RZ := hide ((D4.out.block _ (lt_heap R1.out)).trans R1.out)
  have BW4 := hide (below_next B1.out D4.out)
  clear HL R1 J2 D4 HW BI BP
  generalize W3.alloc (.cells X.cells.toArray 96) = W4 at *
  generalize W3.heap.size = g9 at *
  have SS : Hid (∀ W, Below W4.heap.size W4 W → Below w.heap.size w W ∧ W.heap[g9]? = some (.cells X.cells.toArray 96 (0, 0))) := fun W bw => ⟨below_next BW4.out bw, (bw.block _ (lt_heap R9.out)).trans R9.out⟩
  have DV1 := hide ((Below.refl W4.heap.size W4).drew)
  refine wp_region_held_drew (S := fun W => Below w.heap.size w W ∧ W.heap[g9]? = some (.cells X.cells.toArray 96 (0, 0))) (by kernel_rfl) (SS.out _ DV1.out) (fun hH => ?_)
  generalize hWd : W4.drew = V1 at *
  clear hWd
  refine wpAnyH_take (i := 0) (v := (.agg X.cells.toArray)) rfl (by kernel_rfl) (by kernel_rfl) (by kernel_rfl) (fun _ _ _ h => h) (yl_load (by rfl) _ (by rfl) _ X.cells.toArray (by rfl) (fun W hS => ld_row AI CZ.out hS.2)) hH ?_
  change wpAnyH _ _ _ _ _ _ _ (Act.put _ (some 34) _) _
  simp only [Act.put, List.setIfInBounds_toArray, List.set_cons_zero, List.set_cons_succ]
  refine wpAnyH_take (i := 2) (v := (.slice av L.length cv)) rfl (by kernel_rfl) (by kernel_rfl) (by kernel_rfl) (fun _ _ _ h => h) (yl_move (by rfl) _ (by rfl) _ (by rfl)) hH ?_
  change wpAnyH _ _ _ _ _ _ _ (Act.put _ (some 36) _) _
  simp only [Act.put, List.setIfInBounds_toArray, List.set_cons_zero, List.set_cons_succ]
  refine wpAnyH_ready (rs := [1, 3]) (by kernel_rfl) (by simp) (AllReadyH.cons rfl (fun K1 hK1 => ?_) (AllReadyH.cons rfl (fun K1 hK1 => ?_) AllReadyH.nil))
  · refine Ek.stepBs1 KA (by rfl) _ (by rfl) X (by rfl) ?_
    have ba := (Below.refl V1.heap.size V1).alloc (Nat.le_refl _) (.cells (KA.enc X).toArray KA.e)
    have DV2 := hide (below_next DV1.out ba)
    have RI1 := hide (heap_alloc_last V1 (.cells (KA.enc X).toArray KA.e))
    have GI : Hid (W4.heap.size ≤ V1.heap.size) := DV1.out.size
    refine hK1.out _ _ (SS.out _ DV2.out) (fun hH => ?_)
    clear hK1
    change wpAnyH _ _ _ _ _ _ _ (Act.put _ (some 35) _) _
    simp only [Act.put, List.setIfInBounds_toArray, List.set_cons_zero, List.set_cons_succ]
    clear ba
    generalize V1.alloc (.cells (KA.enc X).toArray KA.e) = V2 at *
    generalize V1.heap.size = gi at *
    refine wpAnyH_ready (rs := [3]) (by kernel_rfl) (by simp) (AllReadyH.cons rfl (fun K1 hK1 => ?_) AllReadyH.nil)
    go_simp
    refine (HC.out V2 (HL4.out.below DV2.out)).mono ?_
    rintro r V3 ⟨v', rfl, ox, be, fa⟩
    obtain ⟨ao', co', rfl⟩ := ox.form
    have DV3 := hide (below_next DV2.out be)
    have RI := hide ((be.block _ (lt_heap RI1.out)).trans RI1.out)
    have OXX : Hid (OX KO V3 (.slice ao' L.length co') L ∧ ∀ g, (Value.slice ao' L.length co').ownBlock = some g → W4.heap.size ≤ g) := ⟨ox, fun g hg => Nat.le_trans DV2.out.size (fa g hg)⟩
    refine hK1.out _ _ (SS.out _ DV3.out) (fun hH => ?_)
    clear hK1 be ox fa
    have R3 := hide ((DV3.out.block _ (lt_heap RZ.out)).trans RZ.out)
    refine wpAnyH_take (i := 4) (v := (.agg #[.int .u32 1, .slice (some ⟨gi, 0, none⟩) 1 1, .slice ao' L.length co', .int .u32 0])) rfl (by kernel_rfl) (by kernel_rfl) (by kernel_rfl) (fun _ _ _ h => h) (yl_build (by rfl) _ (by rfl) #[(0, .int .u32 1), (1, .slice (some ⟨gi, 0, none⟩) 1 1), (2, .slice ao' L.length co')] _ (by simp only [List.map_toArray, List.map_cons, List.map_nil]; rfl) (fun W => bld_cbT _ _ _ _ _ _ W)) hH ?_
    change wpAnyH _ _ _ _ _ _ _ (Act.put _ (some 38) _) _
    simp only [Act.put, List.setIfInBounds_toArray, List.set_cons_zero, List.set_cons_succ]
    refine wpAnyH_ready (rs := [5]) (by kernel_rfl) (by simp) (AllReadyH.cons rfl (fun K1 hK1 => ?_) AllReadyH.nil)
    refine stepStoreA AT (by rfl) _ _ (by rfl) w.heap.size #[.int .u32 1, .slice (some ⟨gi, 0, none⟩) 1 1, .slice ao' L.length co', .int .u32 0] rfl (by simp [Value.oneCell']) (by rfl) (by rfl) (zT.cells none 0 none 0) rfl 90 R3.out ?_
    refine hK1.out _ _ ⟨below_setRow (below_next BW4.out DV3.out) (Nat.le_refl _) _, (setRow_other _ _ _ _ (Ne.symm NG.out)).trans ((DV3.out.block _ (lt_heap R9.out)).trans R9.out)⟩ (fun hH => ?_)
    clear hK1
    refine wpAnyH_take (i := 6) (v := (.int .i64 0)) rfl (by kernel_rfl) (by kernel_rfl) (by kernel_rfl) (fun _ _ _ h => h) (.inl ⟨by rfl, fun W _ => by go_simp⟩) hH ?_
    change wpAnyH _ _ _ _ _ _ _ (Act.put _ (some 7) _) _
    simp only [Act.put, List.setIfInBounds_toArray]
    refine wpAnyH_done (by kernel_rfl) ?_ _
    clear hH
    go_wp2
    have hlt0 := lt_heap R3.out
    have LI : LX KA (V3.setRow w.heap.size #[.int .u32 1, .slice (some ⟨gi, 0, none⟩) 1 1, .slice ao' L.length co', .int .u32 0]) (.slice (some ⟨gi, 0, none⟩) 1 1) [X] := LX.of_row ((setRow_other _ _ _ _ (by have := GI.out; have := lt_heap RZ.out; omega)).trans RI.out)
    have LO : OX KO (V3.setRow w.heap.size #[.int .u32 1, .slice (some ⟨gi, 0, none⟩) 1 1, .slice ao' L.length co', .int .u32 0]) (.slice ao' L.length co') L := OXX.out.1.of_block (fun g hg => setRow_other _ _ _ _ (by have := OXX.out.2 g hg; have := lt_heap RZ.out; omega))
    exact bodyPost_ret (v := .tuple #[.agg #[.int .u32 1, .slice (some ⟨gi, 0, none⟩) 1 1, .slice ao' L.length co', .int .u32 0], .int .i64 0]) (resA2K AT Tryz.results28 _ _ w.heap.size 90 _ rfl rfl (setRow_heap _ _ _ _ _ _ R3.out) _ rfl) rfl ⟨some ⟨gi, 0, none⟩, 1, ao', co', rfl, ⟨by rw [show (cbT n x L).ins = [X] by rw [HXX.out, HK.out]; rfl]; exact LI, LO.read⟩, below_setRow (below_next BW4.out DV3.out) (Nat.le_refl _) _⟩
  · go_simp
    refine (HC.out V1 (HL4.out.below DV1.out)).mono ?_
    rintro r V2 ⟨v', rfl, ox, be, fa⟩
    obtain ⟨ao', co', rfl⟩ := ox.form
    have DV2 := hide (below_next DV1.out be)
    have OX0 : Hid (OX KO V2 (.slice ao' L.length co') L ∧ ∀ g, (Value.slice ao' L.length co').ownBlock = some g → W4.heap.size ≤ g) := ⟨ox, fun g hg => Nat.le_trans DV1.out.size (fa g hg)⟩
    refine hK1.out _ _ (SS.out _ DV2.out) (fun hH => ?_)
    clear hK1 be ox fa
    refine wpAnyH_ready (rs := [1]) (by kernel_rfl) (by simp) (AllReadyH.cons rfl (fun K1 hK1 => ?_) AllReadyH.nil)
    refine Ek.stepBs1 KA (by rfl) _ (by rfl) X (by rfl) ?_
    have ba := (Below.refl V2.heap.size V2).alloc (Nat.le_refl _) (.cells (KA.enc X).toArray KA.e)
    have DV3 := hide (below_next DV2.out ba)
    have RI := hide (heap_alloc_last V2 (.cells (KA.enc X).toArray KA.e))
    have GI : Hid (W4.heap.size ≤ V2.heap.size) := DV2.out.size
    have OXX : Hid (OX KO (V2.alloc (.cells (KA.enc X).toArray KA.e)) (.slice ao' L.length co') L ∧ ∀ g, (Value.slice ao' L.length co').ownBlock = some g → W4.heap.size ≤ g) := ⟨OX0.out.1.below ba, OX0.out.2⟩
    refine hK1.out _ _ (SS.out _ DV3.out) (fun hH => ?_)
    clear hK1
    change wpAnyH _ _ _ _ _ _ _ (Act.put _ (some 35) _) _
    simp only [Act.put, List.setIfInBounds_toArray, List.set_cons_zero, List.set_cons_succ]
    clear ba
    generalize V2.alloc (.cells (KA.enc X).toArray KA.e) = V3 at *
    generalize V2.heap.size = gi at *
    have R3 := hide ((DV3.out.block _ (lt_heap RZ.out)).trans RZ.out)
    refine wpAnyH_take (i := 4) (v := (.agg #[.int .u32 1, .slice (some ⟨gi, 0, none⟩) 1 1, .slice ao' L.length co', .int .u32 0])) rfl (by kernel_rfl) (by kernel_rfl) (by kernel_rfl) (fun _ _ _ h => h) (yl_build (by rfl) _ (by rfl) #[(0, .int .u32 1), (1, .slice (some ⟨gi, 0, none⟩) 1 1), (2, .slice ao' L.length co')] _ (by simp only [List.map_toArray, List.map_cons, List.map_nil]; rfl) (fun W => bld_cbT _ _ _ _ _ _ W)) hH ?_
    change wpAnyH _ _ _ _ _ _ _ (Act.put _ (some 38) _) _
    simp only [Act.put, List.setIfInBounds_toArray, List.set_cons_zero, List.set_cons_succ]
    refine wpAnyH_ready (rs := [5]) (by kernel_rfl) (by simp) (AllReadyH.cons rfl (fun K1 hK1 => ?_) AllReadyH.nil)
    refine stepStoreA AT (by rfl) _ _ (by rfl) w.heap.size #[.int .u32 1, .slice (some ⟨gi, 0, none⟩) 1 1, .slice ao' L.length co', .int .u32 0] rfl (by simp [Value.oneCell']) (by rfl) (by rfl) (zT.cells none 0 none 0) rfl 90 R3.out ?_
    refine hK1.out _ _ ⟨below_setRow (below_next BW4.out DV3.out) (Nat.le_refl _) _, (setRow_other _ _ _ _ (Ne.symm NG.out)).trans ((DV3.out.block _ (lt_heap R9.out)).trans R9.out)⟩ (fun hH => ?_)
    clear hK1
    refine wpAnyH_take (i := 6) (v := (.int .i64 0)) rfl (by kernel_rfl) (by kernel_rfl) (by kernel_rfl) (fun _ _ _ h => h) (.inl ⟨by rfl, fun W _ => by go_simp⟩) hH ?_
    change wpAnyH _ _ _ _ _ _ _ (Act.put _ (some 7) _) _
    simp only [Act.put, List.setIfInBounds_toArray]
    refine wpAnyH_done (by kernel_rfl) ?_ _
    clear hH
    go_wp2
    have hlt0 := lt_heap R3.out
    have LI : LX KA (V3.setRow w.heap.size #[.int .u32 1, .slice (some ⟨gi, 0, none⟩) 1 1, .slice ao' L.length co', .int .u32 0]) (.slice (some ⟨gi, 0, none⟩) 1 1) [X] := LX.of_row ((setRow_other _ _ _ _ (by have := GI.out; have := lt_heap RZ.out; omega)).trans RI.out)
    have LO : OX KO (V3.setRow w.heap.size #[.int .u32 1, .slice (some ⟨gi, 0, none⟩) 1 1, .slice ao' L.length co', .int .u32 0]) (.slice ao' L.length co') L := OXX.out.1.of_block (fun g hg => setRow_other _ _ _ _ (by have := OXX.out.2 g hg; have := lt_heap RZ.out; omega))
    exact bodyPost_ret (v := .tuple #[.agg #[.int .u32 1, .slice (some ⟨gi, 0, none⟩) 1 1, .slice ao' L.length co', .int .u32 0], .int .i64 0]) (resA2K AT Tryz.results28 _ _ w.heap.size 90 _ rfl rfl (setRow_heap _ _ _ _ _ _ R3.out) _ rfl) rfl ⟨some ⟨gi, 0, none⟩, 1, ao', co', rfl, ⟨by rw [show (cbT n x L).ins = [X] by rw [HXX.out, HK.out]; rfl]; exact LI, LO.read⟩, below_setRow (below_next BW4.out DV3.out) (Nat.le_refl _) _⟩
end
end Go.Proofs.YtofddbjnncgmlabGreatDoor
