/- The walk of MsgKinds. -/
import Derived.Test.YtiadfaipmpogbaaGreatPt
import Derived.Test.YtiadfaipmpogbaaGreatPk
import Derived.Test.YtiadfaipmpogbaaGreatPr
import Derived.Test.YtiadfaipmpogbaaGreatPm
import Derived.Test.YtiadfaipmpogbaaGreatPh
import Derived.Test.YtiadfaipmpogbaaGreatPz
namespace Go.Proofs.YtiadfaipmpogbaaGreat
open Go.RowKit
open Go.Deep
attribute [local go_sem ↓] bdM_eq
theorem bare_fit (k : Int) (n : UInt64) : (bareM k n).fit := ⟨by show 0 < _; decide, by show 0 < _; decide, by show 0 < _; decide, by show 0 < _; decide, by show 0 < _; decide, by show 0 < _; decide, by show 0 < _; decide, by show 0 < _; decide⟩
theorem sameB (k : Int) (n : UInt64) (W : World) : Calls Tryz.prog 13 #[.agg ((bareM k n).cells nil8).toArray, .agg ((bareM k n).cells nil8).toArray] W fun e w' => e = .returned (.bool true) ∧ Below W.heap.size W w' := by
  have := same_any (bareM k n) (bareM k n) nil8 nil8 W (bare_ML k n W) (bare_ML k n W) (bare_fit k n)
  rwa [decide_eq_true rfl] at this
theorem sameZ (W : World) : Calls Tryz.prog 13 #[.agg (zM.cells nil8).toArray, .agg (zM.cells nil8).toArray] W fun e w' => e = .returned (.bool true) ∧ Below W.heap.size W w' := sameB 0 0 W
section
set_option maxRecDepth 10000
set_option maxHeartbeats 8000000
theorem msgKinds_walk (w : World) (k : Int) (_ : -9223372036854775808 ≤ k) (_ : k ≤ 9223372036854775807) (c : ByteArray) (_ : c.size ≤ 140737488351232) (v : Value) (L : List Im) (hx : LX KI w v L) (hz : L.length * 36 ≤ 140737488355328) : Calls Tryz.prog 6 #[.int .i64 k, .string c, v] w fun e w' => e = .returned (.bool true) ∧ Below w.heap.size w w' := by
  obtain ⟨ao, cap, rfl⟩ := hx.form
  have HX := hide hx
  have HZL := hide hz
  have B00 := hide (Below.refl w.heap.size w)
  clear hx hz
  go_enter Tryz.func6, Tryz.ntmps6
  go_wp2
  go_loopw [7, 8] (fun s7 s8 wr => ∃ (q : Int) (i : Nat), s7 = .int .i64 q ∧ s8 = .int .i64 (i : Int) ∧ 1 ≤ i ∧ i ≤ 19 ∧ Hid ((1 ≤ q ∧ q < i ∧ cmd q = c) ∨ (q = 0 ∧ ∀ j : Int, 1 ≤ j → j < i → cmd j ≠ c)) ∧ Hid (Below w.heap.size w wr)) (fun _ s8 _ => (19 - intOf s8).toNat)
  case atStart => exact ⟨0, 1, rfl, rfl, by omega, by omega, .inr ⟨rfl, fun j h1 h2 => by omega⟩, B00⟩
  case round =>
    clear B00
    obtain ⟨q, i, rfl, rfl, h1, h19, HJ, BW⟩ := hrel
    by_cases hlt : i ≤ 18
    · have h2 : (i : Int) ≤ 18 := by omega
      have e1 : IntKind.i64.wrap ((i : Int) + 1) = i + 1 := wrapI _ (by omega) (by omega)
      have hi := bytes_same (cmd (i : Int)) c
      have HC := hide (rcommand_any (i : Int) wr)
      have KK := hide (And.intro (show 1 ≤ i + 1 by omega) (And.intro (show i + 1 ≤ 19 by omega) (show ((19 : Int) - ((i : Int) + 1)).toNat < ((19 : Int) - (i : Int)).toNat by omega)))
      by_cases hc : cmd (i : Int) = c
      · have hq : ((cmd (i : Int)).toList == c.toList) = true := by rw [hi]; exact decide_eq_true hc
        have HK : Hid ((1 ≤ (i : Int) ∧ (i : Int) < ((i + 1 : Nat) : Int) ∧ cmd (i : Int) = c) ∨ ((i : Int) = 0 ∧ ∀ j : Int, 1 ≤ j → j < ((i + 1 : Nat) : Int) → cmd j ≠ c)) := .inl ⟨by omega, by omega, hc⟩
        clear hi hc HJ hlt h19 h1
        generalize hcm : cmd (i : Int) = cm at HC hq
        clear hcm
        go_wp2_with (go_at_call 17; refine HC.out.mono ?_; rintro e w1 ⟨rfl, be⟩; have BN := hide (below_next BW.out be); clear be)
        exact ⟨⟨_, i + 1, rfl, by go_num, KK.out.1, KK.out.2.1, HK, BN⟩, by simpa [intOf] using KK.out.2.2⟩
      · have hq : ((cmd (i : Int)).toList == c.toList) = false := by rw [hi]; exact decide_eq_false hc
        have HK : Hid ((1 ≤ q ∧ q < ((i + 1 : Nat) : Int) ∧ cmd q = c) ∨ (q = 0 ∧ ∀ j : Int, 1 ≤ j → j < ((i + 1 : Nat) : Int) → cmd j ≠ c)) := by
          rcases HJ.out with ⟨a1, a2, a3⟩ | ⟨a1, a2⟩
          · exact .inl ⟨a1, by omega, a3⟩
          · refine .inr ⟨a1, fun j j1 j2 => ?_⟩
            by_cases e : j = i
            · rw [e]; exact hc
            · exact a2 j j1 (by omega)
        clear hi hc HJ hlt h19 h1
        generalize hcm : cmd (i : Int) = cm at HC hq
        clear hcm
        go_wp2_with (go_at_call 17; refine HC.out.mono ?_; rintro e w1 ⟨rfl, be⟩; have BN := hide (below_next BW.out be); clear be)
        exact ⟨⟨_, i + 1, rfl, by go_num, KK.out.1, KK.out.2.1, HK, BN⟩, by simpa [intOf] using KK.out.2.2⟩
    · have h2 : ¬ (i : Int) ≤ 18 := by omega
      have QK : Hid (isKind c q) := by
        rcases HJ.out with ⟨a1, a2, a3⟩ | ⟨a1, a2⟩
        · exact .inl ⟨a1, by omega, a3⟩
        · exact .inr ⟨a1, fun j j1 j2 => a2 j j1 (by omega)⟩
      have HX0 := hide (HX.out.below BW.out)
      clear hlt h1 h19 HJ HX
      go_upto_region 7 with fail
      generalize wr = W0 at *
      have CC := hide (fun W => command_any k W)
      have CR := hide (fun W => rcommand_any k W)
      have CB := hide (fun W => bare_any k W)
      have CS1 := hide (fun W => sameB k 0 W)
      have CS2 := hide (fun W => sameB k 9 W)
      have CS3 := hide (fun W => sameZ W)
      have hb0 : ∀ W, (bdM #[]).run Tryz.prog W = .ok (.agg (zM.cells nil8).toArray) W := fun W => AM.build W
      have hb1 : ∀ W, (bdM #[(0, .int .i64 k)]).run Tryz.prog W = .ok (.agg ((bareM k 0).cells nil8).toArray) W := fun W => run_bld0 k W
      have hb3 : ∀ W, (bdM #[(0, .int .i64 k), (3, .int .u64 9)]).run Tryz.prog W = .ok (.agg ((bareM k 9).cells nil8).toArray) W := fun W => run_bld3 k 9 W
      have A0 := AM
      have OZ := hide (And.intro (zM.size nil8) (zM.one nil8 nil8_ok))
      have ON := hide (And.intro ((bareM k 9).size nil8) ((bareM k 9).one nil8 nil8_ok))
      generalize cmd k = ck at *
      by_cases hA : k = 5 ∨ k = 6
      · skip
        have CN : Hid (∀ W, Calls Tryz.prog 18 #[.int .i64 k, .int .u64 9] W fun e w' => e = .returned (.tuple #[.agg ((bareM k 9).cells nil8).toArray, .int .i64 0]) ∧ Below W.heap.size W w') := fun W => nonced_yes k 9 hA W
        have eA : askE k L.length = 90 := by unfold askE; rw [if_neg (by omega)]
        have CA : Hid (∀ W, LX KI W (.slice ao L.length cap) L → Calls Tryz.prog 19 #[.int .i64 k, .slice ao L.length cap] W fun e w' => e = .returned (.tuple #[.agg (zM.cells nil8).toArray, .int .i64 90]) ∧ Below W.heap.size W w') := fun W h => by
          have := asked_no k _ L W h (by rw [eA]; decide)
          rwa [eA] at this
        clear eA
        generalize (zM.cells nil8).toArray = Z at *
        generalize ((bareM k 9).cells nil8).toArray = N9 at *
        generalize ((bareM k 0).cells nil8).toArray = C0 at *
        clear HZL
        rcases hA with rfl | rfl
        all_goals
          go_upto_region 8 with (first | (go_at_call 18; refine (CN.out _).mono ?_; rintro e W1 ⟨rfl, be⟩; have B1 := hide (below_next BW.out be); have HX1 := hide (HX0.out.below be); clear be) | (with_reducible refine at_list ?_; first | refine wpList_allocA A0 rfl rfl ?_ | refine wpList_store_newA A0 rfl _ _ rfl _ rfl N9 ON.out.1 ON.out.2 rfl rfl ?_))
          have b2 : Below W1.heap.size W1 (W1.alloc (.cells N9 38)) := (Below.refl _ _).alloc (Nat.le_refl _) _
          have R9 := hide (heap_alloc_last W1 (.cells N9 38))
          have B2 := hide (below_next B1.out b2)
          have HX2 := hide (HX1.out.below b2)
          clear b2 B1 HX1 HX0 BW CN
          generalize W1.alloc (.cells N9 38) = W2 at *
          generalize W1.heap.size = g9 at *
          have CA2 := hide (CA.out W2 HX2.out)
          go_upto_region 9 with (first | (go_at_call 19; refine CA2.out.mono ?_; rintro e W3 ⟨rfl, be⟩; have B3 := hide (below_next B2.out be); have Q9 := hide ((be.block _ (lt_heap R9.out)).trans R9.out); clear be) | (with_reducible refine at_list ?_; first | refine wpList_allocA A0 rfl rfl ?_ | refine wpList_store_newA A0 rfl _ _ rfl _ rfl Z OZ.out.1 OZ.out.2 rfl rfl ?_))
          have b4 : Below W3.heap.size W3 (W3.alloc (.cells Z 38)) := (Below.refl _ _).alloc (Nat.le_refl _) _
          have R11 := hide (heap_alloc_last W3 (.cells Z 38))
          have B4 := hide (below_next B3.out b4)
          have P9 := hide ((b4.block _ (lt_heap Q9.out)).trans Q9.out)
          clear b4 B3 B2 HX2 CA2 CA Q9 R9
          generalize W3.alloc (.cells Z 38) = W4 at *
          generalize W3.heap.size = g11 at *
          have L9 : Hid (∀ W, Below W4.heap.size W4 W → W.heap[g9]? = some (.cells N9 38 (0, 0))) := fun W b => (b.block _ (lt_heap P9.out)).trans P9.out
          have L11 : Hid (∀ W, Below W4.heap.size W4 W → W.heap[g11]? = some (.cells Z 38 (0, 0))) := fun W b => (b.block _ (lt_heap R11.out)).trans R11.out
          have BC := hide (Below.refl W4.heap.size W4)
          clear P9 R11
          have CK := hide (fun W => kind_any c W)
          go_wp2_with (first | (go_at_call 10; refine (awake9 _).mono ?_; rintro e w5 ⟨rfl, be⟩; have := hide (below_next (Hid.out (by assumption)) be); clear be) | (go_at_call 20; refine (CC.out _).mono ?_; rintro e w5 ⟨rfl, rfl⟩) | (go_at_call 17; refine (CR.out _).mono ?_; rintro e w5 ⟨rfl, be⟩; have := hide (below_next (Hid.out (by assumption)) be); clear be) | (go_at_call 21; refine (CK.out _).mono ?_; rintro e w5 ⟨r, rfl, hr, rfl⟩; obtain rfl := isKind_one hr QK.out; clear hr) | (go_at_call 22; refine (CB.out _).mono ?_; rintro e w5 ⟨rfl, be⟩; have := hide (below_next (Hid.out (by assumption)) be); clear be) | (go_at_call 13; (with_reducible first | refine (CS1.out _).mono ?_ | refine (CS2.out _).mono ?_ | refine (CS3.out _).mono ?_); rintro e w5 ⟨rfl, be⟩; have := hide (below_next (Hid.out (by assumption)) be); clear be) | (with_reducible refine at_list ?_; first | refine wpList_loadS A0 _ rfl g9 rfl N9 ON.out.1 38 (L9.out _ (Hid.out (by assumption))) rfl ?_ | refine wpList_loadS A0 _ rfl g11 rfl Z OZ.out.1 38 (L11.out _ (Hid.out (by assumption))) rfl ?_))
          go_ret
          exact ⟨rfl, below_next B4.out (Hid.out (by assumption))⟩
      by_cases hB : (8 ≤ k ∧ k ≤ 10) ∧ L.length ≤ 500
      · skip
        have CN : Hid (∀ W, Calls Tryz.prog 18 #[.int .i64 k, .int .u64 9] W fun e w' => e = .returned (.tuple #[.agg (zM.cells nil8).toArray, .int .i64 90]) ∧ Below W.heap.size W w') := fun W => nonced_no k 9 (by omega) W
        have CA : Hid (∀ W, LX KI W (.slice ao L.length cap) L → Calls Tryz.prog 19 #[.int .i64 k, .slice ao L.length cap] W fun e w' => ∃ v', e = .returned (.tuple #[.agg ((askM k L).cells (nil8.ati v')).toArray, .int .i64 0]) ∧ LX KI w' v' L ∧ Below W.heap.size W w') := fun W h => asked_yes k hB.1 _ L W h hB.2
        have hl : ¬ (L.length : Int) > 500 := by omega
        have HXR : Hid (∀ W ao cap, LX KI W (.slice ao L.length cap) L → Calls Tryz.prog 9 #[.agg ((askM k L).cells (nil8.ati (.slice ao L.length cap))).toArray] W fun e w' => ∃ so, e = .returned (.agg ((askM k L).cells so).toArray) ∧ MR w' so (askM k L) ∧ Below W.heap.size W w') := fun W ao cap h => ref_any (askM k L) (nil8.ati (.slice ao L.length cap)) W (ask_ML k h) ⟨by show 0 * _ ≤ _; decide, HZL.out, by show 0 * _ ≤ _; decide, by show 0 * _ ≤ _; decide, by show 0 * _ ≤ _; decide, by show 0 * _ ≤ _; decide, by show 0 * _ ≤ _; decide, by show 0 * _ ≤ _; decide⟩
        have RS : Hid (∀ W so1 so2, MR W so1 (askM k L) → MR W so2 (askM k L) → Calls Tryz.prog 15 #[.agg ((askM k L).cells so1).toArray, .agg ((askM k L).cells so2).toArray] W fun e w' => e = .returned (.bool true) ∧ Below W.heap.size W w') := fun W so1 so2 h1 h2 => by
          have := rsame_any (askM k L) (askM k L) so1 so2 W h1 h2 ⟨by show 0 < _; decide, by show L.length < _; omega, by show 0 < _; decide, by show 0 < _; decide, by show 0 < _; decide, by show 0 < _; decide, by show 0 < _; decide, by show 0 < _; decide⟩
          rwa [decide_eq_true rfl] at this
        have hb12 : ∀ W, (bdM #[(0, .int .i64 k), (12, .slice ao L.length cap)]).run Tryz.prog W = .ok (.agg ((askM k L).cells (nil8.ati (.slice ao L.length cap))).toArray) W := fun W => run_bldK k L ao L.length cap W
        generalize (zM.cells nil8).toArray = Z at *
        generalize ((bareM k 9).cells nil8).toArray = N9 at *
        generalize ((bareM k 0).cells nil8).toArray = C0 at *
        have h5 : (k == 5) = false := by rw [beq_eq_false_iff_ne]; omega
        have h6 : (k == 6) = false := by rw [beq_eq_false_iff_ne]; omega
        have h8 : k ≥ 8 := by omega
        have h10 : k ≤ 10 := by omega
        clear hA hB
        go_upto_region 8 with (first | (go_at_call 18; refine (CN.out _).mono ?_; rintro e W1 ⟨rfl, be⟩; have B1 := hide (below_next BW.out be); have HX1 := hide (HX0.out.below be); clear be) | (with_reducible refine at_list ?_; first | refine wpList_allocA A0 rfl rfl ?_ | refine wpList_store_newA A0 rfl _ _ rfl _ rfl Z OZ.out.1 OZ.out.2 rfl rfl ?_))
        have b2 : Below W1.heap.size W1 (W1.alloc (.cells Z 38)) := (Below.refl _ _).alloc (Nat.le_refl _) _
        have R9 := hide (heap_alloc_last W1 (.cells Z 38))
        have B2 := hide (below_next B1.out b2)
        have HX2 := hide (HX1.out.below b2)
        clear b2 B1 HX1 HX0 BW CN
        generalize W1.alloc (.cells Z 38) = W2 at *
        generalize W1.heap.size = g9 at *
        have CA2 := hide (CA.out W2 HX2.out)
        have HL : Hid (∀ ao' n' cap', ((askM k L).cells (nil8.ati (.slice ao' n' cap'))).toArray.size = 121 ∧ ((askM k L).cells (nil8.ati (.slice ao' n' cap'))).toArray.all (·.oneCell') = true) := fun ao' n' cap' => ⟨(askM k L).size _, (askM k L).one _ ⟨nil8_ok.a, ⟨_, _, _, rfl⟩, nil8_ok.h, nil8_ok.hd, nil8_ok.sh, nil8_ok.f, nil8_ok.p, nil8_ok.r⟩⟩
        go_upto_region 9 with (first | (go_at_call 19; refine CA2.out.mono ?_; rintro e W3 ⟨v', rfl, lx, be⟩; obtain ⟨ao', cap', rfl⟩ := lx.form; have LX3 := hide lx; have B3 := hide (below_next B2.out be); have HX3 := hide (HX2.out.below be); have Q9 := hide ((be.block _ (lt_heap R9.out)).trans R9.out); clear be lx) | (with_reducible refine at_list ?_; first | refine wpList_allocA A0 rfl rfl ?_ | refine wpList_store_newA A0 rfl _ _ rfl _ rfl _ (HL.out _ _ _).1 (HL.out _ _ _).2 rfl rfl ?_))
        have b4 : Below W3.heap.size W3 (W3.alloc (.cells ((askM k L).cells (nil8.ati (.slice ao' L.length cap'))).toArray 38)) := (Below.refl _ _).alloc (Nat.le_refl _) _
        have R11 := hide (heap_alloc_last W3 (.cells ((askM k L).cells (nil8.ati (.slice ao' L.length cap'))).toArray 38))
        have B4 := hide (below_next B3.out b4)
        have P9 := hide ((b4.block _ (lt_heap Q9.out)).trans Q9.out)
        have HX4 := hide (HX3.out.below b4)
        have LX4 := hide (LX3.out.below b4)
        clear HX3 LX3
        clear b4 B3 B2 HX2 CA2 CA Q9 R9
        generalize W3.alloc (.cells ((askM k L).cells (nil8.ati (.slice ao' L.length cap'))).toArray 38) = W4 at *
        generalize W3.heap.size = g11 at *
        have L9 : Hid (∀ W, Below W4.heap.size W4 W → W.heap[g9]? = some (.cells Z 38 (0, 0))) := fun W b => (b.block _ (lt_heap P9.out)).trans P9.out
        have L11 : Hid (∀ W, Below W4.heap.size W4 W → W.heap[g11]? = some (.cells ((askM k L).cells (nil8.ati (.slice ao' L.length cap'))).toArray 38 (0, 0))) := fun W b => (b.block _ (lt_heap R11.out)).trans R11.out
        have BC := hide (Below.refl W4.heap.size W4)
        clear P9 R11
        have CK := hide (fun W => kind_any c W)
        have LXa : Hid (∀ W, Below W4.heap.size W4 W → LX KI W (.slice ao' L.length cap') L) := fun W b => LX4.out.below b
        have LXb : Hid (∀ W, Below W4.heap.size W4 W → LX KI W (.slice ao L.length cap) L) := fun W b => HX4.out.below b
        clear LX4 HX4
        go_wp2_with (first | (go_at_call 9; with_reducible refine (HXR.out _ ao' cap' (LXa.out _ (Hid.out (by assumption)))).mono ?_; rintro e w7 ⟨so1, rfl, mr, be⟩; have M1 := hide mr; have BM := hide (Below.refl w7.heap.size w7); have B7 := hide (below_next (Hid.out (by assumption)) be); clear be mr) | (go_at_call 9; with_reducible refine (HXR.out _ ao cap (LXb.out _ B7.out)).mono ?_; rintro e w8 ⟨so2, rfl, mr, be⟩; have M2 := hide mr; have M3 := hide (M1.out.below be); have B8 := hide (below_next B7.out be); clear be mr) | (go_at_call 15; refine (RS.out _ so1 so2 M3.out M2.out).mono ?_; rintro e w9 ⟨rfl, be⟩; have B9 := hide (below_next B8.out be); clear be) | (go_at_call 10; refine (awake9 _).mono ?_; rintro e w5 ⟨rfl, be⟩; have := hide (below_next (Hid.out (by assumption)) be); clear be) | (go_at_call 20; refine (CC.out _).mono ?_; rintro e w5 ⟨rfl, rfl⟩) | (go_at_call 17; refine (CR.out _).mono ?_; rintro e w5 ⟨rfl, be⟩; have := hide (below_next (Hid.out (by assumption)) be); clear be) | (go_at_call 21; refine (CK.out _).mono ?_; rintro e w5 ⟨r, rfl, hr, rfl⟩; obtain rfl := isKind_one hr QK.out; clear hr) | (go_at_call 22; refine (CB.out _).mono ?_; rintro e w5 ⟨rfl, be⟩; have := hide (below_next (Hid.out (by assumption)) be); clear be) | (go_at_call 13; (with_reducible first | refine (CS1.out _).mono ?_ | refine (CS2.out _).mono ?_ | refine (CS3.out _).mono ?_); rintro e w5 ⟨rfl, be⟩; have := hide (below_next (Hid.out (by assumption)) be); clear be) | (with_reducible refine at_list ?_; first | refine wpList_loadS A0 _ rfl g9 rfl Z OZ.out.1 38 (L9.out _ (Hid.out (by assumption))) rfl ?_ | refine wpList_loadS A0 _ rfl g11 rfl ((askM k L).cells (nil8.ati (.slice ao' L.length cap'))).toArray (HL.out _ _ _).1 38 (L11.out _ (Hid.out (by assumption))) rfl ?_))
        go_ret
        exact ⟨rfl, below_next B4.out B9.out⟩
      by_cases hC : (8 ≤ k ∧ k ≤ 10) ∧ ¬ L.length ≤ 500
      · skip
        have CN : Hid (∀ W, Calls Tryz.prog 18 #[.int .i64 k, .int .u64 9] W fun e w' => e = .returned (.tuple #[.agg (zM.cells nil8).toArray, .int .i64 90]) ∧ Below W.heap.size W w') := fun W => nonced_no k 9 (by omega) W
        have eA : askE k L.length = 5 := by unfold askE; rw [if_pos hC.1, if_pos (by omega)]
        have CA : Hid (∀ W, LX KI W (.slice ao L.length cap) L → Calls Tryz.prog 19 #[.int .i64 k, .slice ao L.length cap] W fun e w' => e = .returned (.tuple #[.agg (zM.cells nil8).toArray, .int .i64 5]) ∧ Below W.heap.size W w') := fun W h => by
          have := asked_no k _ L W h (by rw [eA]; decide)
          rwa [eA] at this
        clear eA
        have hl : (L.length : Int) > 500 := by omega
        generalize (zM.cells nil8).toArray = Z at *
        generalize ((bareM k 9).cells nil8).toArray = N9 at *
        generalize ((bareM k 0).cells nil8).toArray = C0 at *
        clear HZL
        have hk3 : k = 8 ∨ k = 9 ∨ k = 10 := by omega
        clear hC
        rcases hk3 with rfl | rfl | rfl
        all_goals
          go_upto_region 8 with (first | (go_at_call 18; refine (CN.out _).mono ?_; rintro e W1 ⟨rfl, be⟩; have B1 := hide (below_next BW.out be); have HX1 := hide (HX0.out.below be); clear be) | (with_reducible refine at_list ?_; first | refine wpList_allocA A0 rfl rfl ?_ | refine wpList_store_newA A0 rfl _ _ rfl _ rfl Z OZ.out.1 OZ.out.2 rfl rfl ?_))
          have b2 : Below W1.heap.size W1 (W1.alloc (.cells Z 38)) := (Below.refl _ _).alloc (Nat.le_refl _) _
          have R9 := hide (heap_alloc_last W1 (.cells Z 38))
          have B2 := hide (below_next B1.out b2)
          have HX2 := hide (HX1.out.below b2)
          clear b2 B1 HX1 HX0 BW CN
          generalize W1.alloc (.cells Z 38) = W2 at *
          generalize W1.heap.size = g9 at *
          have CA2 := hide (CA.out W2 HX2.out)
          go_upto_region 9 with (first | (go_at_call 19; refine CA2.out.mono ?_; rintro e W3 ⟨rfl, be⟩; have B3 := hide (below_next B2.out be); have Q9 := hide ((be.block _ (lt_heap R9.out)).trans R9.out); clear be) | (with_reducible refine at_list ?_; first | refine wpList_allocA A0 rfl rfl ?_ | refine wpList_store_newA A0 rfl _ _ rfl _ rfl Z OZ.out.1 OZ.out.2 rfl rfl ?_))
          have b4 : Below W3.heap.size W3 (W3.alloc (.cells Z 38)) := (Below.refl _ _).alloc (Nat.le_refl _) _
          have R11 := hide (heap_alloc_last W3 (.cells Z 38))
          have B4 := hide (below_next B3.out b4)
          have P9 := hide ((b4.block _ (lt_heap Q9.out)).trans Q9.out)
          clear b4 B3 B2 HX2 CA2 CA Q9 R9
          generalize W3.alloc (.cells Z 38) = W4 at *
          generalize W3.heap.size = g11 at *
          have L9 : Hid (∀ W, Below W4.heap.size W4 W → W.heap[g9]? = some (.cells Z 38 (0, 0))) := fun W b => (b.block _ (lt_heap P9.out)).trans P9.out
          have L11 : Hid (∀ W, Below W4.heap.size W4 W → W.heap[g11]? = some (.cells Z 38 (0, 0))) := fun W b => (b.block _ (lt_heap R11.out)).trans R11.out
          have BC := hide (Below.refl W4.heap.size W4)
          clear P9 R11
          have CK := hide (fun W => kind_any c W)
          go_wp2_with (first | (go_at_call 10; refine (awake9 _).mono ?_; rintro e w5 ⟨rfl, be⟩; have := hide (below_next (Hid.out (by assumption)) be); clear be) | (go_at_call 20; refine (CC.out _).mono ?_; rintro e w5 ⟨rfl, rfl⟩) | (go_at_call 17; refine (CR.out _).mono ?_; rintro e w5 ⟨rfl, be⟩; have := hide (below_next (Hid.out (by assumption)) be); clear be) | (go_at_call 21; refine (CK.out _).mono ?_; rintro e w5 ⟨r, rfl, hr, rfl⟩; obtain rfl := isKind_one hr QK.out; clear hr) | (go_at_call 22; refine (CB.out _).mono ?_; rintro e w5 ⟨rfl, be⟩; have := hide (below_next (Hid.out (by assumption)) be); clear be) | (go_at_call 13; (with_reducible first | refine (CS1.out _).mono ?_ | refine (CS2.out _).mono ?_ | refine (CS3.out _).mono ?_); rintro e w5 ⟨rfl, be⟩; have := hide (below_next (Hid.out (by assumption)) be); clear be) | (with_reducible refine at_list ?_; first | refine wpList_loadS A0 _ rfl g9 rfl Z OZ.out.1 38 (L9.out _ (Hid.out (by assumption))) rfl ?_ | refine wpList_loadS A0 _ rfl g11 rfl Z OZ.out.1 38 (L11.out _ (Hid.out (by assumption))) rfl ?_))
          go_ret
          exact ⟨rfl, below_next B4.out (Hid.out (by assumption))⟩
      by_cases hD : k < 8
      · skip
        have CN : Hid (∀ W, Calls Tryz.prog 18 #[.int .i64 k, .int .u64 9] W fun e w' => e = .returned (.tuple #[.agg (zM.cells nil8).toArray, .int .i64 90]) ∧ Below W.heap.size W w') := fun W => nonced_no k 9 (by omega) W
        have eA : askE k L.length = 90 := by unfold askE; rw [if_neg (by omega)]
        have CA : Hid (∀ W, LX KI W (.slice ao L.length cap) L → Calls Tryz.prog 19 #[.int .i64 k, .slice ao L.length cap] W fun e w' => e = .returned (.tuple #[.agg (zM.cells nil8).toArray, .int .i64 90]) ∧ Below W.heap.size W w') := fun W h => by
          have := asked_no k _ L W h (by rw [eA]; decide)
          rwa [eA] at this
        clear eA
        generalize (zM.cells nil8).toArray = Z at *
        generalize ((bareM k 9).cells nil8).toArray = N9 at *
        generalize ((bareM k 0).cells nil8).toArray = C0 at *
        clear HZL
        have h5 : (k == 5) = false := by rw [beq_eq_false_iff_ne]; omega
        have h6 : (k == 6) = false := by rw [beq_eq_false_iff_ne]; omega
        have h8 : ¬ k ≥ 8 := by omega
        clear hA hB hC hD
        go_upto_region 8 with (first | (go_at_call 18; refine (CN.out _).mono ?_; rintro e W1 ⟨rfl, be⟩; have B1 := hide (below_next BW.out be); have HX1 := hide (HX0.out.below be); clear be) | (with_reducible refine at_list ?_; first | refine wpList_allocA A0 rfl rfl ?_ | refine wpList_store_newA A0 rfl _ _ rfl _ rfl Z OZ.out.1 OZ.out.2 rfl rfl ?_))
        have b2 : Below W1.heap.size W1 (W1.alloc (.cells Z 38)) := (Below.refl _ _).alloc (Nat.le_refl _) _
        have R9 := hide (heap_alloc_last W1 (.cells Z 38))
        have B2 := hide (below_next B1.out b2)
        have HX2 := hide (HX1.out.below b2)
        clear b2 B1 HX1 HX0 BW CN
        generalize W1.alloc (.cells Z 38) = W2 at *
        generalize W1.heap.size = g9 at *
        have CA2 := hide (CA.out W2 HX2.out)
        go_upto_region 9 with (first | (go_at_call 19; refine CA2.out.mono ?_; rintro e W3 ⟨rfl, be⟩; have B3 := hide (below_next B2.out be); have Q9 := hide ((be.block _ (lt_heap R9.out)).trans R9.out); clear be) | (with_reducible refine at_list ?_; first | refine wpList_allocA A0 rfl rfl ?_ | refine wpList_store_newA A0 rfl _ _ rfl _ rfl Z OZ.out.1 OZ.out.2 rfl rfl ?_))
        have b4 : Below W3.heap.size W3 (W3.alloc (.cells Z 38)) := (Below.refl _ _).alloc (Nat.le_refl _) _
        have R11 := hide (heap_alloc_last W3 (.cells Z 38))
        have B4 := hide (below_next B3.out b4)
        have P9 := hide ((b4.block _ (lt_heap Q9.out)).trans Q9.out)
        clear b4 B3 B2 HX2 CA2 CA Q9 R9
        generalize W3.alloc (.cells Z 38) = W4 at *
        generalize W3.heap.size = g11 at *
        have L9 : Hid (∀ W, Below W4.heap.size W4 W → W.heap[g9]? = some (.cells Z 38 (0, 0))) := fun W b => (b.block _ (lt_heap P9.out)).trans P9.out
        have L11 : Hid (∀ W, Below W4.heap.size W4 W → W.heap[g11]? = some (.cells Z 38 (0, 0))) := fun W b => (b.block _ (lt_heap R11.out)).trans R11.out
        have BC := hide (Below.refl W4.heap.size W4)
        clear P9 R11
        have CK := hide (fun W => kind_any c W)
        go_wp2_with (first | (go_at_call 10; refine (awake9 _).mono ?_; rintro e w5 ⟨rfl, be⟩; have := hide (below_next (Hid.out (by assumption)) be); clear be) | (go_at_call 20; refine (CC.out _).mono ?_; rintro e w5 ⟨rfl, rfl⟩) | (go_at_call 17; refine (CR.out _).mono ?_; rintro e w5 ⟨rfl, be⟩; have := hide (below_next (Hid.out (by assumption)) be); clear be) | (go_at_call 21; refine (CK.out _).mono ?_; rintro e w5 ⟨r, rfl, hr, rfl⟩; obtain rfl := isKind_one hr QK.out; clear hr) | (go_at_call 22; refine (CB.out _).mono ?_; rintro e w5 ⟨rfl, be⟩; have := hide (below_next (Hid.out (by assumption)) be); clear be) | (go_at_call 13; (with_reducible first | refine (CS1.out _).mono ?_ | refine (CS2.out _).mono ?_ | refine (CS3.out _).mono ?_); rintro e w5 ⟨rfl, be⟩; have := hide (below_next (Hid.out (by assumption)) be); clear be) | (with_reducible refine at_list ?_; first | refine wpList_loadS A0 _ rfl g9 rfl Z OZ.out.1 38 (L9.out _ (Hid.out (by assumption))) rfl ?_ | refine wpList_loadS A0 _ rfl g11 rfl Z OZ.out.1 38 (L11.out _ (Hid.out (by assumption))) rfl ?_))
        go_ret
        exact ⟨rfl, below_next B4.out (Hid.out (by assumption))⟩
      have hE : 10 < k := by omega
      skip
      have CN : Hid (∀ W, Calls Tryz.prog 18 #[.int .i64 k, .int .u64 9] W fun e w' => e = .returned (.tuple #[.agg (zM.cells nil8).toArray, .int .i64 90]) ∧ Below W.heap.size W w') := fun W => nonced_no k 9 (by omega) W
      have eA : askE k L.length = 90 := by unfold askE; rw [if_neg (by omega)]
      have CA : Hid (∀ W, LX KI W (.slice ao L.length cap) L → Calls Tryz.prog 19 #[.int .i64 k, .slice ao L.length cap] W fun e w' => e = .returned (.tuple #[.agg (zM.cells nil8).toArray, .int .i64 90]) ∧ Below W.heap.size W w') := fun W h => by
        have := asked_no k _ L W h (by rw [eA]; decide)
        rwa [eA] at this
      clear eA
      generalize (zM.cells nil8).toArray = Z at *
      generalize ((bareM k 9).cells nil8).toArray = N9 at *
      generalize ((bareM k 0).cells nil8).toArray = C0 at *
      clear HZL
      have h5 : (k == 5) = false := by rw [beq_eq_false_iff_ne]; omega
      have h6 : (k == 6) = false := by rw [beq_eq_false_iff_ne]; omega
      have h8 : k ≥ 8 := by omega
      have h10 : ¬ k ≤ 10 := by omega
      clear hA hB hC hD hE
      go_upto_region 8 with (first | (go_at_call 18; refine (CN.out _).mono ?_; rintro e W1 ⟨rfl, be⟩; have B1 := hide (below_next BW.out be); have HX1 := hide (HX0.out.below be); clear be) | (with_reducible refine at_list ?_; first | refine wpList_allocA A0 rfl rfl ?_ | refine wpList_store_newA A0 rfl _ _ rfl _ rfl Z OZ.out.1 OZ.out.2 rfl rfl ?_))
      have b2 : Below W1.heap.size W1 (W1.alloc (.cells Z 38)) := (Below.refl _ _).alloc (Nat.le_refl _) _
      have R9 := hide (heap_alloc_last W1 (.cells Z 38))
      have B2 := hide (below_next B1.out b2)
      have HX2 := hide (HX1.out.below b2)
      clear b2 B1 HX1 HX0 BW CN
      generalize W1.alloc (.cells Z 38) = W2 at *
      generalize W1.heap.size = g9 at *
      have CA2 := hide (CA.out W2 HX2.out)
      go_upto_region 9 with (first | (go_at_call 19; refine CA2.out.mono ?_; rintro e W3 ⟨rfl, be⟩; have B3 := hide (below_next B2.out be); have Q9 := hide ((be.block _ (lt_heap R9.out)).trans R9.out); clear be) | (with_reducible refine at_list ?_; first | refine wpList_allocA A0 rfl rfl ?_ | refine wpList_store_newA A0 rfl _ _ rfl _ rfl Z OZ.out.1 OZ.out.2 rfl rfl ?_))
      have b4 : Below W3.heap.size W3 (W3.alloc (.cells Z 38)) := (Below.refl _ _).alloc (Nat.le_refl _) _
      have R11 := hide (heap_alloc_last W3 (.cells Z 38))
      have B4 := hide (below_next B3.out b4)
      have P9 := hide ((b4.block _ (lt_heap Q9.out)).trans Q9.out)
      clear b4 B3 B2 HX2 CA2 CA Q9 R9
      generalize W3.alloc (.cells Z 38) = W4 at *
      generalize W3.heap.size = g11 at *
      have L9 : Hid (∀ W, Below W4.heap.size W4 W → W.heap[g9]? = some (.cells Z 38 (0, 0))) := fun W b => (b.block _ (lt_heap P9.out)).trans P9.out
      have L11 : Hid (∀ W, Below W4.heap.size W4 W → W.heap[g11]? = some (.cells Z 38 (0, 0))) := fun W b => (b.block _ (lt_heap R11.out)).trans R11.out
      have BC := hide (Below.refl W4.heap.size W4)
      clear P9 R11
      have CK := hide (fun W => kind_any c W)
      go_wp2_with (first | (go_at_call 10; refine (awake9 _).mono ?_; rintro e w5 ⟨rfl, be⟩; have := hide (below_next (Hid.out (by assumption)) be); clear be) | (go_at_call 20; refine (CC.out _).mono ?_; rintro e w5 ⟨rfl, rfl⟩) | (go_at_call 17; refine (CR.out _).mono ?_; rintro e w5 ⟨rfl, be⟩; have := hide (below_next (Hid.out (by assumption)) be); clear be) | (go_at_call 21; refine (CK.out _).mono ?_; rintro e w5 ⟨r, rfl, hr, rfl⟩; obtain rfl := isKind_one hr QK.out; clear hr) | (go_at_call 22; refine (CB.out _).mono ?_; rintro e w5 ⟨rfl, be⟩; have := hide (below_next (Hid.out (by assumption)) be); clear be) | (go_at_call 13; (with_reducible first | refine (CS1.out _).mono ?_ | refine (CS2.out _).mono ?_ | refine (CS3.out _).mono ?_); rintro e w5 ⟨rfl, be⟩; have := hide (below_next (Hid.out (by assumption)) be); clear be) | (with_reducible refine at_list ?_; first | refine wpList_loadS A0 _ rfl g9 rfl Z OZ.out.1 38 (L9.out _ (Hid.out (by assumption))) rfl ?_ | refine wpList_loadS A0 _ rfl g11 rfl Z OZ.out.1 38 (L11.out _ (Hid.out (by assumption))) rfl ?_))
      go_ret
      exact ⟨rfl, below_next B4.out (Hid.out (by assumption))⟩
end
end Go.Proofs.YtiadfaipmpogbaaGreat
