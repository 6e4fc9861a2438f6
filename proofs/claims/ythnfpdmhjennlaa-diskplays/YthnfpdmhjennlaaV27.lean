/- The document's disk: Crash, where the power is on. -/
import Derived.Test.YthnfpdmhjennlaaV26
namespace Go.Proofs.Ythnfpdmhjennlaa
open Go.RowKit
open Go.Deep
open Go.Lib
set_option linter.unusedVariables false
section
set_option maxRecDepth 10000
set_option maxHeartbeats 8000000
theorem rcrash_live (K : Nat → Prop) (x : St) (v : Value) (keep torn : Int) (w : World) (hv : isD K w v x) (hV : Vd x) (hd : x.dead = false) (hK : ∀ g, K g → g < w.heap.size) (hk1 : -9223372036854775808 ≤ keep) (hk2 : keep < 9223372036854775808) : Calls Try.prog 20 #[v, .int .i64 keep, .int .i64 torn] w fun e w' => ∃ v', e = .returned v' ∧ isD K w' v' (flC x keep torn) ∧ Below w.heap.size w w' := by
  obtain ⟨vs, vl, vp, S, rfl, h⟩ := hv
  obtain ⟨ao, cs, rfl⟩ := h.sure.form
  obtain ⟨al, cl, rfl⟩ := h.loose.form
  obtain ⟨ap, cp, rfl⟩ := h.plan.form
  unfold dcs
  have s1 : (w.alloc (.cells #[.slice ao S.length cs, .slice al x.loose.length cl, .int .i64 (x.made : Int), .slice ap x.plan.length cp, .bool x.dead] 30)).heap.size = w.heap.size + 1 := by simp
  have r1 := (Below.heap_alloc _ (.cells (dcs (.slice none 0 0) (.slice none 0 0) 0 (.slice none 0 0) false) 30) w.heap.size (by rw [s1]; omega)).trans (heap_alloc_last w (.cells #[.slice ao S.length cs, .slice al x.loose.length cl, .int .i64 (x.made : Int), .slice ap x.plan.length cp, .bool x.dead] 30))
  have r2 := heap_alloc_last (w.alloc (.cells #[.slice ao S.length cs, .slice al x.loose.length cl, .int .i64 (x.made : Int), .slice ap x.plan.length cp, .bool x.dead] 30)) (.cells (dcs (.slice none 0 0) (.slice none 0 0) 0 (.slice none 0 0) false) 30)
  rw [s1] at r2
  have hB : Below w.heap.size w ((w.alloc (.cells #[.slice ao S.length cs, .slice al x.loose.length cl, .int .i64 (x.made : Int), .slice ap x.plan.length cp, .bool x.dead] 30)).alloc (.cells (dcs (.slice none 0 0) (.slice none 0 0) 0 (.slice none 0 0) false) 30)) := ((Below.refl w.heap.size w).alloc (Nat.le_refl _) _).alloc (by rw [s1]; omega) _
  have HB := hide hB
  have R1 := hide r1
  have R2 := hide r2
  have H1 := hide (h.up hB)
  have HK : Hid (∀ g, grow K w ((w.alloc (.cells #[.slice ao S.length cs, .slice al x.loose.length cl, .int .i64 (x.made : Int), .slice ap x.plan.length cp, .bool x.dead] 30)).alloc (.cells (dcs (.slice none 0 0) (.slice none 0 0) 0 (.slice none 0 0) false) 30)) g → g < ((w.alloc (.cells #[.slice ao S.length cs, .slice al x.loose.length cl, .int .i64 (x.made : Int), .slice ap x.plan.length cp, .bool x.dead] 30)).alloc (.cells (dcs (.slice none 0 0) (.slice none 0 0) 0 (.slice none 0 0) false) 30)).heap.size) := grow_lt hK hB.size
  have HKn : Hid (∀ g, K g → grow K w ((w.alloc (.cells #[.slice ao S.length cs, .slice al x.loose.length cl, .int .i64 (x.made : Int), .slice ap x.plan.length cp, .bool x.dead] 30)).alloc (.cells (dcs (.slice none 0 0) (.slice none 0 0) 0 (.slice none 0 0) false) 30)) g) := fun g hg => .inl hg
  have HKo : Hid (∀ g, w.heap.size ≤ g → g < w.heap.size + 2 → grow K w ((w.alloc (.cells #[.slice ao S.length cs, .slice al x.loose.length cl, .int .i64 (x.made : Int), .slice ap x.plan.length cp, .bool x.dead] 30)).alloc (.cells (dcs (.slice none 0 0) (.slice none 0 0) 0 (.slice none 0 0) false) 30)) g) := fun g h1 h2 => .inr ⟨h1, by simp; omega⟩
  have HDD := hide hd
  have HVd := hide hV
  have HL := hide hV.many
  have HKK := hide (And.intro hk1 hk2)
  clear hB r1 r2 h hd hV hK hk1 hk2
  generalize grow K w ((w.alloc (.cells #[.slice ao S.length cs, .slice al x.loose.length cl, .int .i64 (x.made : Int), .slice ap x.plan.length cp, .bool x.dead] 30)).alloc (.cells (dcs (.slice none 0 0) (.slice none 0 0) 0 (.slice none 0 0) false) 30)) = K2 at *
  go_enter Try.func20, Try.ntmps20
  go_upto_region 1 with ((with_reducible refine at_list ?_); first | refine wpList_boxA rfl _ rfl _ rfl ?_ | refine wpList_allocA ADd rfl rfl ?_)
  try rw [s1]
  clear s1
  generalize ((w.alloc (.cells #[.slice ao S.length cs, .slice al x.loose.length cl, .int .i64 (x.made : Int), .slice ap x.plan.length cp, .bool x.dead] 30)).alloc (.cells (dcs (.slice none 0 0) (.slice none 0 0) 0 (.slice none 0 0) false) 30)) = W1 at *
  generalize hgb : w.heap.size = b0 at *
  have CC : Hid (∀ W, Below W1.heap.size W1 W → W.heap[b0]? = some (.cells #[.slice ao S.length cs, .slice al x.loose.length cl, .int .i64 (x.made : Int), .slice ap x.plan.length cp, .bool x.dead] 30 (0, 0)) ∧ W.heap[b0 + 1]? = some (.cells (dcs (.slice none 0 0) (.slice none 0 0) 0 (.slice none 0 0) false) 30 (0, 0)) ∧ W.cell? ⟨b0, 0, none⟩ = some (.slice ao S.length cs) ∧ W.cell? ⟨b0, 1, none⟩ = some (.slice al x.loose.length cl) ∧ W.cell? ⟨b0, 4, none⟩ = some (.bool x.dead)) := fun W b => by
    have e1 := (b.block _ (lt_heap R1.out)).trans R1.out
    refine ⟨e1, (b.block _ (lt_heap R2.out)).trans R2.out, ?_, ?_, ?_⟩ <;> (rw [cell_of_row _ _ _ _ _ _ e1]; rfl)
  obtain ⟨q1, q2, c0, c1, c4⟩ := CC.out _ (Below.refl _ _)
  rw [HDD.out] at c4
  clear q1 q2
  go_upto_region 5 with fail
  clear c0 c1 c4
  go_loopw [7, 8] (fun u i wr => ∃ k : Nat, k ≤ x.loose.length ∧ k ≤ keep.toNat ∧ i = .int .i64 (k : Int) ∧ ∃ L, Hid (LXK KFi K2 wr u L ∧ Rep L (doL x.sure (x.loose.take k)) ∧ Below W1.heap.size W1 wr)) (fun _ i _ => (x.loose.length - intOf i).toNat)
  case atStart => exact ⟨0, Nat.zero_le _, Nat.zero_le _, rfl, S, H1.out.sure, H1.out.rep, Below.refl _ _⟩
  case round =>
    obtain ⟨k, hk, hkk, rfl, L, J⟩ := hrel
    obtain ⟨r1, r2, c0, c1, c4⟩ := CC.out _ J.out.2.2
    have RA := hide r1
    have RB := hide r2
    obtain ⟨au, cu, rfl⟩ := J.out.1.form
    clear r1 r2
    have h0 : (0 : Int) ≤ (k : Int) := by omega
    by_cases hlt : k < x.loose.length
    · obtain ⟨g, off, rfl⟩ := H1.out.loose.now.base (by omega)
      have hr := (H1.out.loose.now.below J.out.2.2).range k hlt
      have hr0 : wr.cell? ⟨g, off + k * 5, none⟩ = some (.int .i64 (x.loose[k].kind : Int)) := hr 0 _ rfl
      have h2 : (k : Int) < x.loose.length := by omega
      have e1 : IntKind.i64.wrap ((k : Int) + 1) = k + 1 := wrapI _ (by omega) (by have := HL.out; omega)
      have OK : Hid (okD (doL x.sure (x.loose.take k)) x.loose[k]) := HVd.out.ok.at_ (List.getElem?_eq_getElem hlt)
      have HA : Hid (x.loose[k]? = some x.loose[k]) := List.getElem?_eq_getElem hlt
      have NX : Hid (doL x.sure (x.loose.take (k + 1)) = doC (doL x.sure (x.loose.take k)) x.loose[k]) := by
        show _ = _
        unfold doL
        rw [List.take_succ_eq_append_getElem hlt, List.foldl_append]
        rfl
      generalize x.loose[k] = c at *
      have LT := hide hlt
      clear hlt hk
      by_cases h3 : (k : Int) < keep
      · have KK := hide (show k + 1 ≤ keep.toNat by omega)
        clear hkk c0 c4 hr0
        go_upto_region 7 with (first | ((with_reducible refine at_list ?_); refine wpList_loadCr rfl _ rfl g (off + k * 5) rfl c hr ?_) | (go_at_call 43; refine (rdo_any K2 L _ _ c _ J.out.1.now J.out.2.1 OK.out (fun q hq => Nat.lt_of_lt_of_le (HK.out q hq) J.out.2.2.size)).mono ?_; rintro e W2 ⟨v2, L2, rfl, k2, r2, b2⟩; have J2 : Hid (LXK KFi K2 W2 v2 L2 ∧ Rep L2 (doL x.sure (x.loose.take (k + 1))) ∧ Below W1.heap.size W1 W2) := ⟨k2, by rw [NX.out]; exact r2, below_next J.out.2.2 b2⟩; clear k2 r2 b2))
        go_wp2
        go_round
        case rel => exact ⟨k + 1, LT.out, KK.out, by go_num, L2, J2⟩
        case measure => have := LT.out; simp [intOf]; omega
      · have KP : Hid (kp x keep = k) := by show min _ _ = _; have := LT.out; omega
        rw [← KP.out] at HA
        clear hkk c0 c4
        have d3 : decide ((k : Int) < keep) = false := decide_eq_false h3
        by_cases hkd : (c.kind : Int) = 0
        · by_cases ht : 0 < torn
          · have TY : Hid (tornB c torn = true) := by show _ = _; unfold tornB; simp; omega
            have FS : Hid (doC (doL x.sure (x.loose.take k)) (tornC c torn) = flS x keep torn) := by show _ = _; rw [flS_yes HA.out TY.out, KP.out]
            have OT : Hid (okD (doL x.sure (x.loose.take k)) (tornC c torn)) := torn_okD OK.out TY.out
            have CZ : Hid (∀ (W : World) (gc : Nat), W.heap[gc]? = some (.cells (chv c) 53 (0, 0)) → W.cell? ⟨gc, 4, none⟩ = some (.string c.s)) := fun W gc e => by rw [cell_of_row _ _ _ _ _ _ e]; rfl
            go_upto_region 10 with (first | ((with_reducible refine at_list ?_); first | refine wpList_loadCr rfl _ rfl g (off + k * 5) rfl c hr ?_ | refine wpList_allocA ARCh rfl rfl ?_ | refine wpList_store_newA ARCh rfl _ _ rfl _ rfl (chv c) rfl (chv_one c) rfl rfl ?_))
            have R9 := hide (heap_alloc_last wr (.cells (chv c) 53))
            have B9 := hide ((Below.refl wr.heap.size wr).alloc (Nat.le_refl _) (.cells (chv c) 53))
            have L9 : Hid (W1.heap.size ≤ wr.heap.size) := J.out.2.2.size
            clear hr hr0 c1 e1 h2 hkd h3 d3
            generalize hg9 : wr.heap.size = g9 at *
            generalize wr.alloc (.cells (chv c) 53) = W9 at *
            have c9 := CZ.out _ _ R9.out
            by_cases hts : torn < (c.s.size : Int)
            · have TS : Hid (tornC c torn = ⟨c.kind, c.name, c.dst, c.pos, c.s.extract 0 torn.toNat⟩) := by
                show _ = _
                unfold tornC
                rw [Nat.min_eq_left (by omega)]
              have tn : (torn.toNat : Int) = torn := by omega
              have hsl : Hid (∀ W, (Instr.sliceAt 9 (.string c.s) none (some (.int .i64 torn)) none).run Try.prog W = .ok (.string (c.s.extract 0 torn.toNat)) W) := fun W => by
                have := run_front c.s torn.toNat (by omega) W
                rw [tn] at this
                exact this
              have f9 := frozen_of_row _ _ 4 _ _ R9.out
              clear tn
              go_upto_region 12 with ((with_reducible refine at_list ?_); first | (refine list_run rfl (ex_slF _ _ (by rfl) (by rfl) (by rfl) (hsl.out _)) ?_))
              have R9b : Hid ((W9.setCell ⟨g9, 4, none⟩ (.string (c.s.extract 0 torn.toNat))).heap[g9]? = some (.cells (chv (tornC c torn)) 53 (0, 0))) := by
                show _ = _
                rw [heap_setCell_same W9 g9 4 _ _ _ R9.out, TS.out]
                rfl
              have B9b : Hid (Below g9 wr (W9.setCell ⟨g9, 4, none⟩ (.string (c.s.extract 0 torn.toNat)))) := B9.out.setCell (Nat.le_refl _) _
              clear c9 f9 R9 B9
              generalize W9.setCell ⟨g9, 4, none⟩ (.string (c.s.extract 0 torn.toNat)) = Wc at *
              go_upto_region 13 with (first | ((with_reducible refine at_list ?_); refine wpList_loadA ARCh rfl _ rfl g9 rfl _ rfl _ R9b.out ?_) | (go_at_call 43; refine (rdo_any K2 L _ _ (tornC c torn) _ (J.out.1.now.below (by rw [hg9]; exact B9b.out)) J.out.2.1 OT.out (fun q hq => Nat.lt_of_lt_of_le (HK.out q hq) (Nat.le_trans L9.out (by have := B9b.out.size; rw [hg9] at this; exact this)))).mono ?_; rintro e W2 ⟨v2, L2, rfl, k2, r2, b2⟩; have J2 : Hid (LXK KFi K2 W2 v2 L2 ∧ Rep L2 (flS x keep torn) ∧ Below W1.heap.size W1 W2) := ⟨k2, by rw [← FS.out]; exact r2, below_next (below_next J.out.2.2 (by rw [hg9]; exact B9b.out)) b2⟩; clear k2 r2 b2))
              obtain ⟨a5, c5, rfl⟩ := J2.out.1.form
              clear RA RB J
              obtain ⟨r1, r2, c0, c1, c4⟩ := CC.out _ J2.out.2.2
              have RA := hide r1
              have RB := hide r2
              have f0 := frozen_of_row _ _ 0 _ _ RA.out
              have f1 := frozen_of_row _ _ 1 _ _ RA.out
              have f4 := frozen_of_row _ _ 4 _ _ RA.out
              clear r1 r2
              go_upto_region 14 with fail
              clear c0 c1 c4 f0 f1 f4
              have R6 : Hid ((((W2.setCell ⟨b0, 0, none⟩ (.slice a5 L2.length c5)).setCell ⟨b0, 1, none⟩ (.slice none 0 0)).setCell ⟨b0, 4, none⟩ (.bool true)).heap[b0]? = some (.cells (dcs (.slice a5 L2.length c5) (.slice none 0 0) x.made (.slice ap x.plan.length cp) true) 30 (0, 0))) := by
                have e1 := heap_setCell_same W2 b0 0 _ _ (.slice a5 L2.length c5) RA.out
                have e2 := heap_setCell_same _ b0 1 _ _ (.slice none 0 0) e1
                exact heap_setCell_same _ b0 4 _ _ (.bool true) e2
              have F6 : Hid (Fr K2 W2 (((W2.setCell ⟨b0, 0, none⟩ (.slice a5 L2.length c5)).setCell ⟨b0, 1, none⟩ (.slice none 0 0)).setCell ⟨b0, 4, none⟩ (.bool true))) := ((Fr.setCell _ (HKo.out b0 (Nat.le_refl _) (by omega)) _).trans' (Fr.setCell _ (HKo.out b0 (Nat.le_refl _) (by omega)) _)).trans' (Fr.setCell _ (HKo.out b0 (Nat.le_refl _) (by omega)) _)
              have B6 : Hid (Below b0 w (((W2.setCell ⟨b0, 0, none⟩ (.slice a5 L2.length c5)).setCell ⟨b0, 1, none⟩ (.slice none 0 0)).setCell ⟨b0, 4, none⟩ (.bool true))) := by
                have h1 := HB.out.size
                rw [hgb] at h1
                exact (((HB.out.trans (J2.out.2.2.mono h1)).setCell (Nat.le_refl _) _).setCell (Nat.le_refl _) _).setCell (Nat.le_refl _) _
              have RB6 : Hid ((((W2.setCell ⟨b0, 0, none⟩ (.slice a5 L2.length c5)).setCell ⟨b0, 1, none⟩ (.slice none 0 0)).setCell ⟨b0, 4, none⟩ (.bool true)).heap[b0 + 1]? = some (.cells (dcs (.slice none 0 0) (.slice none 0 0) 0 (.slice none 0 0) false) 30 (0, 0))) := by
                show _ = _
                rw [Below.heap_setCell _ _ _ _ (show b0 + 1 ≠ b0 by omega), Below.heap_setCell _ _ _ _ (show b0 + 1 ≠ b0 by omega), Below.heap_setCell _ _ _ _ (show b0 + 1 ≠ b0 by omega)]
                exact RB.out
              clear RA RB
              generalize (((W2.setCell ⟨b0, 0, none⟩ (.slice a5 L2.length c5)).setCell ⟨b0, 1, none⟩ (.slice none 0 0)).setCell ⟨b0, 4, none⟩ (.bool true)) = W6 at *
              go_wp2_with ((with_reducible refine at_list ?_); first | refine wpList_loadA ADd rfl _ rfl b0 rfl _ rfl _ R6.out ?_ | refine wpList_storeA ADd rfl _ _ rfl (b0 + 1) _ (by rfl) (by simp [dcs, Value.oneCell']) rfl rfl _ (by rfl) _ RB6.out ?_)
              have FA : Fr K2 W2 (W6.setRow (b0 + 1) (dcs (.slice a5 L2.length c5) (.slice none 0 0) x.made (.slice ap x.plan.length cp) true)) := F6.out.trans' (Fr.setRow _ (HKo.out (b0 + 1) (by omega) (by omega)) _)
              refine bodyPost_ret (resA ADd Try.results20 _ _ (b0 + 1) 30 _ rfl rfl (setRow_heap _ _ _ _ _ _ RB6.out)) rfl ⟨_, rfl, ⟨(.slice a5 L2.length c5), .slice none 0 0, .slice ap x.plan.length cp, L2, rfl, (J2.out.1.write FA).mono HKn.out, J2.out.2.1, LXK.nil _, ((H1.out.plan.below J2.out.2.2).write FA).mono HKn.out⟩, ?_⟩
              first | exact below_setRow B6.out (by omega) _ | (rw [hgb]; exact below_setRow B6.out (by omega) _)
            · have TS : Hid (tornC c torn = c) := by
                show _ = _
                unfold tornC
                rw [Nat.min_eq_right (by omega)]
                have : c.s.extract 0 c.s.size = c.s := by simp
                rw [this]
              have R9b : Hid (W9.heap[g9]? = some (.cells (chv (tornC c torn)) 53 (0, 0))) := by
                show _ = _
                rw [TS.out]
                exact R9.out
              have B9b : Hid (Below g9 wr W9) := B9.out
              go_upto_region 12 with fail
              clear c9 R9 B9
              generalize W9 = Wc at *
              go_upto_region 13 with (first | ((with_reducible refine at_list ?_); refine wpList_loadA ARCh rfl _ rfl g9 rfl _ rfl _ R9b.out ?_) | (go_at_call 43; refine (rdo_any K2 L _ _ (tornC c torn) _ (J.out.1.now.below (by rw [hg9]; exact B9b.out)) J.out.2.1 OT.out (fun q hq => Nat.lt_of_lt_of_le (HK.out q hq) (Nat.le_trans L9.out (by have := B9b.out.size; rw [hg9] at this; exact this)))).mono ?_; rintro e W2 ⟨v2, L2, rfl, k2, r2, b2⟩; have J2 : Hid (LXK KFi K2 W2 v2 L2 ∧ Rep L2 (flS x keep torn) ∧ Below W1.heap.size W1 W2) := ⟨k2, by rw [← FS.out]; exact r2, below_next (below_next J.out.2.2 (by rw [hg9]; exact B9b.out)) b2⟩; clear k2 r2 b2))
              obtain ⟨a5, c5, rfl⟩ := J2.out.1.form
              clear RA RB J
              obtain ⟨r1, r2, c0, c1, c4⟩ := CC.out _ J2.out.2.2
              have RA := hide r1
              have RB := hide r2
              have f0 := frozen_of_row _ _ 0 _ _ RA.out
              have f1 := frozen_of_row _ _ 1 _ _ RA.out
              have f4 := frozen_of_row _ _ 4 _ _ RA.out
              clear r1 r2
              go_upto_region 14 with fail
              clear c0 c1 c4 f0 f1 f4
              have R6 : Hid ((((W2.setCell ⟨b0, 0, none⟩ (.slice a5 L2.length c5)).setCell ⟨b0, 1, none⟩ (.slice none 0 0)).setCell ⟨b0, 4, none⟩ (.bool true)).heap[b0]? = some (.cells (dcs (.slice a5 L2.length c5) (.slice none 0 0) x.made (.slice ap x.plan.length cp) true) 30 (0, 0))) := by
                have e1 := heap_setCell_same W2 b0 0 _ _ (.slice a5 L2.length c5) RA.out
                have e2 := heap_setCell_same _ b0 1 _ _ (.slice none 0 0) e1
                exact heap_setCell_same _ b0 4 _ _ (.bool true) e2
              have F6 : Hid (Fr K2 W2 (((W2.setCell ⟨b0, 0, none⟩ (.slice a5 L2.length c5)).setCell ⟨b0, 1, none⟩ (.slice none 0 0)).setCell ⟨b0, 4, none⟩ (.bool true))) := ((Fr.setCell _ (HKo.out b0 (Nat.le_refl _) (by omega)) _).trans' (Fr.setCell _ (HKo.out b0 (Nat.le_refl _) (by omega)) _)).trans' (Fr.setCell _ (HKo.out b0 (Nat.le_refl _) (by omega)) _)
              have B6 : Hid (Below b0 w (((W2.setCell ⟨b0, 0, none⟩ (.slice a5 L2.length c5)).setCell ⟨b0, 1, none⟩ (.slice none 0 0)).setCell ⟨b0, 4, none⟩ (.bool true))) := by
                have h1 := HB.out.size
                rw [hgb] at h1
                exact (((HB.out.trans (J2.out.2.2.mono h1)).setCell (Nat.le_refl _) _).setCell (Nat.le_refl _) _).setCell (Nat.le_refl _) _
              have RB6 : Hid ((((W2.setCell ⟨b0, 0, none⟩ (.slice a5 L2.length c5)).setCell ⟨b0, 1, none⟩ (.slice none 0 0)).setCell ⟨b0, 4, none⟩ (.bool true)).heap[b0 + 1]? = some (.cells (dcs (.slice none 0 0) (.slice none 0 0) 0 (.slice none 0 0) false) 30 (0, 0))) := by
                show _ = _
                rw [Below.heap_setCell _ _ _ _ (show b0 + 1 ≠ b0 by omega), Below.heap_setCell _ _ _ _ (show b0 + 1 ≠ b0 by omega), Below.heap_setCell _ _ _ _ (show b0 + 1 ≠ b0 by omega)]
                exact RB.out
              clear RA RB
              generalize (((W2.setCell ⟨b0, 0, none⟩ (.slice a5 L2.length c5)).setCell ⟨b0, 1, none⟩ (.slice none 0 0)).setCell ⟨b0, 4, none⟩ (.bool true)) = W6 at *
              go_wp2_with ((with_reducible refine at_list ?_); first | refine wpList_loadA ADd rfl _ rfl b0 rfl _ rfl _ R6.out ?_ | refine wpList_storeA ADd rfl _ _ rfl (b0 + 1) _ (by rfl) (by simp [dcs, Value.oneCell']) rfl rfl _ (by rfl) _ RB6.out ?_)
              have FA : Fr K2 W2 (W6.setRow (b0 + 1) (dcs (.slice a5 L2.length c5) (.slice none 0 0) x.made (.slice ap x.plan.length cp) true)) := F6.out.trans' (Fr.setRow _ (HKo.out (b0 + 1) (by omega) (by omega)) _)
              refine bodyPost_ret (resA ADd Try.results20 _ _ (b0 + 1) 30 _ rfl rfl (setRow_heap _ _ _ _ _ _ RB6.out)) rfl ⟨_, rfl, ⟨(.slice a5 L2.length c5), .slice none 0 0, .slice ap x.plan.length cp, L2, rfl, (J2.out.1.write FA).mono HKn.out, J2.out.2.1, LXK.nil _, ((H1.out.plan.below J2.out.2.2).write FA).mono HKn.out⟩, ?_⟩
              first | exact below_setRow B6.out (by omega) _ | (rw [hgb]; exact below_setRow B6.out (by omega) _)
          · have TN : Hid (tornB c torn = false) := by show _ = _; unfold tornB; simp; omega
            have FS : Hid (doL x.sure (x.loose.take k) = flS x keep torn) := by show _ = _; rw [flS_no HA.out TN.out, KP.out]
            have J2 : Hid (LXK KFi K2 wr (.slice au L.length cu) L ∧ Rep L (flS x keep torn) ∧ Below W1.heap.size W1 wr) := by rw [← FS.out]; exact J.out
            go_upto_region 13 with fail
            clear hr hr0 c1 e1 h2 hkd h3 d3 ht
            clear RA RB J
            obtain ⟨r1, r2, c0, c1, c4⟩ := CC.out _ J2.out.2.2
            have RA := hide r1
            have RB := hide r2
            have f0 := frozen_of_row _ _ 0 _ _ RA.out
            have f1 := frozen_of_row _ _ 1 _ _ RA.out
            have f4 := frozen_of_row _ _ 4 _ _ RA.out
            clear r1 r2
            go_upto_region 14 with fail
            clear c0 c1 c4 f0 f1 f4
            have R6 : Hid ((((wr.setCell ⟨b0, 0, none⟩ (.slice au L.length cu)).setCell ⟨b0, 1, none⟩ (.slice none 0 0)).setCell ⟨b0, 4, none⟩ (.bool true)).heap[b0]? = some (.cells (dcs (.slice au L.length cu) (.slice none 0 0) x.made (.slice ap x.plan.length cp) true) 30 (0, 0))) := by
              have e1 := heap_setCell_same wr b0 0 _ _ (.slice au L.length cu) RA.out
              have e2 := heap_setCell_same _ b0 1 _ _ (.slice none 0 0) e1
              exact heap_setCell_same _ b0 4 _ _ (.bool true) e2
            have F6 : Hid (Fr K2 wr (((wr.setCell ⟨b0, 0, none⟩ (.slice au L.length cu)).setCell ⟨b0, 1, none⟩ (.slice none 0 0)).setCell ⟨b0, 4, none⟩ (.bool true))) := ((Fr.setCell _ (HKo.out b0 (Nat.le_refl _) (by omega)) _).trans' (Fr.setCell _ (HKo.out b0 (Nat.le_refl _) (by omega)) _)).trans' (Fr.setCell _ (HKo.out b0 (Nat.le_refl _) (by omega)) _)
            have B6 : Hid (Below b0 w (((wr.setCell ⟨b0, 0, none⟩ (.slice au L.length cu)).setCell ⟨b0, 1, none⟩ (.slice none 0 0)).setCell ⟨b0, 4, none⟩ (.bool true))) := by
              have h1 := HB.out.size
              rw [hgb] at h1
              exact (((HB.out.trans (J2.out.2.2.mono h1)).setCell (Nat.le_refl _) _).setCell (Nat.le_refl _) _).setCell (Nat.le_refl _) _
            have RB6 : Hid ((((wr.setCell ⟨b0, 0, none⟩ (.slice au L.length cu)).setCell ⟨b0, 1, none⟩ (.slice none 0 0)).setCell ⟨b0, 4, none⟩ (.bool true)).heap[b0 + 1]? = some (.cells (dcs (.slice none 0 0) (.slice none 0 0) 0 (.slice none 0 0) false) 30 (0, 0))) := by
              show _ = _
              rw [Below.heap_setCell _ _ _ _ (show b0 + 1 ≠ b0 by omega), Below.heap_setCell _ _ _ _ (show b0 + 1 ≠ b0 by omega), Below.heap_setCell _ _ _ _ (show b0 + 1 ≠ b0 by omega)]
              exact RB.out
            clear RA RB
            generalize (((wr.setCell ⟨b0, 0, none⟩ (.slice au L.length cu)).setCell ⟨b0, 1, none⟩ (.slice none 0 0)).setCell ⟨b0, 4, none⟩ (.bool true)) = W6 at *
            go_wp2_with ((with_reducible refine at_list ?_); first | refine wpList_loadA ADd rfl _ rfl b0 rfl _ rfl _ R6.out ?_ | refine wpList_storeA ADd rfl _ _ rfl (b0 + 1) _ (by rfl) (by simp [dcs, Value.oneCell']) rfl rfl _ (by rfl) _ RB6.out ?_)
            have FA : Fr K2 wr (W6.setRow (b0 + 1) (dcs (.slice au L.length cu) (.slice none 0 0) x.made (.slice ap x.plan.length cp) true)) := F6.out.trans' (Fr.setRow _ (HKo.out (b0 + 1) (by omega) (by omega)) _)
            refine bodyPost_ret (resA ADd Try.results20 _ _ (b0 + 1) 30 _ rfl rfl (setRow_heap _ _ _ _ _ _ RB6.out)) rfl ⟨_, rfl, ⟨(.slice au L.length cu), .slice none 0 0, .slice ap x.plan.length cp, L, rfl, (J2.out.1.write FA).mono HKn.out, J2.out.2.1, LXK.nil _, ((H1.out.plan.below J2.out.2.2).write FA).mono HKn.out⟩, ?_⟩
            first | exact below_setRow B6.out (by omega) _ | (rw [hgb]; exact below_setRow B6.out (by omega) _)
        · have TN : Hid (tornB c torn = false) := by show _ = _; unfold tornB; simp; omega
          have FS : Hid (doL x.sure (x.loose.take k) = flS x keep torn) := by show _ = _; rw [flS_no HA.out TN.out, KP.out]
          have J2 : Hid (LXK KFi K2 wr (.slice au L.length cu) L ∧ Rep L (flS x keep torn) ∧ Below W1.heap.size W1 wr) := by rw [← FS.out]; exact J.out
          have hkd2 : ((c.kind : Int) == 0) = false := by simpa using hkd
          go_upto_region 13 with fail
          clear hr hr0 c1 e1 h2 hkd hkd2 h3 d3
          clear RA RB J
          obtain ⟨r1, r2, c0, c1, c4⟩ := CC.out _ J2.out.2.2
          have RA := hide r1
          have RB := hide r2
          have f0 := frozen_of_row _ _ 0 _ _ RA.out
          have f1 := frozen_of_row _ _ 1 _ _ RA.out
          have f4 := frozen_of_row _ _ 4 _ _ RA.out
          clear r1 r2
          go_upto_region 14 with fail
          clear c0 c1 c4 f0 f1 f4
          have R6 : Hid ((((wr.setCell ⟨b0, 0, none⟩ (.slice au L.length cu)).setCell ⟨b0, 1, none⟩ (.slice none 0 0)).setCell ⟨b0, 4, none⟩ (.bool true)).heap[b0]? = some (.cells (dcs (.slice au L.length cu) (.slice none 0 0) x.made (.slice ap x.plan.length cp) true) 30 (0, 0))) := by
            have e1 := heap_setCell_same wr b0 0 _ _ (.slice au L.length cu) RA.out
            have e2 := heap_setCell_same _ b0 1 _ _ (.slice none 0 0) e1
            exact heap_setCell_same _ b0 4 _ _ (.bool true) e2
          have F6 : Hid (Fr K2 wr (((wr.setCell ⟨b0, 0, none⟩ (.slice au L.length cu)).setCell ⟨b0, 1, none⟩ (.slice none 0 0)).setCell ⟨b0, 4, none⟩ (.bool true))) := ((Fr.setCell _ (HKo.out b0 (Nat.le_refl _) (by omega)) _).trans' (Fr.setCell _ (HKo.out b0 (Nat.le_refl _) (by omega)) _)).trans' (Fr.setCell _ (HKo.out b0 (Nat.le_refl _) (by omega)) _)
          have B6 : Hid (Below b0 w (((wr.setCell ⟨b0, 0, none⟩ (.slice au L.length cu)).setCell ⟨b0, 1, none⟩ (.slice none 0 0)).setCell ⟨b0, 4, none⟩ (.bool true))) := by
            have h1 := HB.out.size
            rw [hgb] at h1
            exact (((HB.out.trans (J2.out.2.2.mono h1)).setCell (Nat.le_refl _) _).setCell (Nat.le_refl _) _).setCell (Nat.le_refl _) _
          have RB6 : Hid ((((wr.setCell ⟨b0, 0, none⟩ (.slice au L.length cu)).setCell ⟨b0, 1, none⟩ (.slice none 0 0)).setCell ⟨b0, 4, none⟩ (.bool true)).heap[b0 + 1]? = some (.cells (dcs (.slice none 0 0) (.slice none 0 0) 0 (.slice none 0 0) false) 30 (0, 0))) := by
            show _ = _
            rw [Below.heap_setCell _ _ _ _ (show b0 + 1 ≠ b0 by omega), Below.heap_setCell _ _ _ _ (show b0 + 1 ≠ b0 by omega), Below.heap_setCell _ _ _ _ (show b0 + 1 ≠ b0 by omega)]
            exact RB.out
          clear RA RB
          generalize (((wr.setCell ⟨b0, 0, none⟩ (.slice au L.length cu)).setCell ⟨b0, 1, none⟩ (.slice none 0 0)).setCell ⟨b0, 4, none⟩ (.bool true)) = W6 at *
          go_wp2_with ((with_reducible refine at_list ?_); first | refine wpList_loadA ADd rfl _ rfl b0 rfl _ rfl _ R6.out ?_ | refine wpList_storeA ADd rfl _ _ rfl (b0 + 1) _ (by rfl) (by simp [dcs, Value.oneCell']) rfl rfl _ (by rfl) _ RB6.out ?_)
          have FA : Fr K2 wr (W6.setRow (b0 + 1) (dcs (.slice au L.length cu) (.slice none 0 0) x.made (.slice ap x.plan.length cp) true)) := F6.out.trans' (Fr.setRow _ (HKo.out (b0 + 1) (by omega) (by omega)) _)
          refine bodyPost_ret (resA ADd Try.results20 _ _ (b0 + 1) 30 _ rfl rfl (setRow_heap _ _ _ _ _ _ RB6.out)) rfl ⟨_, rfl, ⟨(.slice au L.length cu), .slice none 0 0, .slice ap x.plan.length cp, L, rfl, (J2.out.1.write FA).mono HKn.out, J2.out.2.1, LXK.nil _, ((H1.out.plan.below J2.out.2.2).write FA).mono HKn.out⟩, ?_⟩
          first | exact below_setRow B6.out (by omega) _ | (rw [hgb]; exact below_setRow B6.out (by omega) _)
    · have h2 : ¬ (k : Int) < x.loose.length := by omega
      have d2 : decide ((k : Int) < (x.loose.length : Int)) = false := decide_eq_false h2
      have KP : Hid (kp x keep = k) := by show min _ _ = _; omega
      have FS : Hid (doL x.sure (x.loose.take k) = flS x keep torn) := by show _ = _; rw [flS_full (by rw [KP.out]; omega), KP.out]
      have J2 : Hid (LXK KFi K2 wr (.slice au L.length cu) L ∧ Rep L (flS x keep torn) ∧ Below W1.heap.size W1 wr) := by rw [← FS.out]; exact J.out
      clear c0 c4
      go_upto_region 13 with fail
      clear c1 h2 d2 hlt
      clear RA RB J
      obtain ⟨r1, r2, c0, c1, c4⟩ := CC.out _ J2.out.2.2
      have RA := hide r1
      have RB := hide r2
      have f0 := frozen_of_row _ _ 0 _ _ RA.out
      have f1 := frozen_of_row _ _ 1 _ _ RA.out
      have f4 := frozen_of_row _ _ 4 _ _ RA.out
      clear r1 r2
      go_upto_region 14 with fail
      clear c0 c1 c4 f0 f1 f4
      have R6 : Hid ((((wr.setCell ⟨b0, 0, none⟩ (.slice au L.length cu)).setCell ⟨b0, 1, none⟩ (.slice none 0 0)).setCell ⟨b0, 4, none⟩ (.bool true)).heap[b0]? = some (.cells (dcs (.slice au L.length cu) (.slice none 0 0) x.made (.slice ap x.plan.length cp) true) 30 (0, 0))) := by
        have e1 := heap_setCell_same wr b0 0 _ _ (.slice au L.length cu) RA.out
        have e2 := heap_setCell_same _ b0 1 _ _ (.slice none 0 0) e1
        exact heap_setCell_same _ b0 4 _ _ (.bool true) e2
      have F6 : Hid (Fr K2 wr (((wr.setCell ⟨b0, 0, none⟩ (.slice au L.length cu)).setCell ⟨b0, 1, none⟩ (.slice none 0 0)).setCell ⟨b0, 4, none⟩ (.bool true))) := ((Fr.setCell _ (HKo.out b0 (Nat.le_refl _) (by omega)) _).trans' (Fr.setCell _ (HKo.out b0 (Nat.le_refl _) (by omega)) _)).trans' (Fr.setCell _ (HKo.out b0 (Nat.le_refl _) (by omega)) _)
      have B6 : Hid (Below b0 w (((wr.setCell ⟨b0, 0, none⟩ (.slice au L.length cu)).setCell ⟨b0, 1, none⟩ (.slice none 0 0)).setCell ⟨b0, 4, none⟩ (.bool true))) := by
        have h1 := HB.out.size
        rw [hgb] at h1
        exact (((HB.out.trans (J2.out.2.2.mono h1)).setCell (Nat.le_refl _) _).setCell (Nat.le_refl _) _).setCell (Nat.le_refl _) _
      have RB6 : Hid ((((wr.setCell ⟨b0, 0, none⟩ (.slice au L.length cu)).setCell ⟨b0, 1, none⟩ (.slice none 0 0)).setCell ⟨b0, 4, none⟩ (.bool true)).heap[b0 + 1]? = some (.cells (dcs (.slice none 0 0) (.slice none 0 0) 0 (.slice none 0 0) false) 30 (0, 0))) := by
        show _ = _
        rw [Below.heap_setCell _ _ _ _ (show b0 + 1 ≠ b0 by omega), Below.heap_setCell _ _ _ _ (show b0 + 1 ≠ b0 by omega), Below.heap_setCell _ _ _ _ (show b0 + 1 ≠ b0 by omega)]
        exact RB.out
      clear RA RB
      generalize (((wr.setCell ⟨b0, 0, none⟩ (.slice au L.length cu)).setCell ⟨b0, 1, none⟩ (.slice none 0 0)).setCell ⟨b0, 4, none⟩ (.bool true)) = W6 at *
      go_wp2_with ((with_reducible refine at_list ?_); first | refine wpList_loadA ADd rfl _ rfl b0 rfl _ rfl _ R6.out ?_ | refine wpList_storeA ADd rfl _ _ rfl (b0 + 1) _ (by rfl) (by simp [dcs, Value.oneCell']) rfl rfl _ (by rfl) _ RB6.out ?_)
      have FA : Fr K2 wr (W6.setRow (b0 + 1) (dcs (.slice au L.length cu) (.slice none 0 0) x.made (.slice ap x.plan.length cp) true)) := F6.out.trans' (Fr.setRow _ (HKo.out (b0 + 1) (by omega) (by omega)) _)
      refine bodyPost_ret (resA ADd Try.results20 _ _ (b0 + 1) 30 _ rfl rfl (setRow_heap _ _ _ _ _ _ RB6.out)) rfl ⟨_, rfl, ⟨(.slice au L.length cu), .slice none 0 0, .slice ap x.plan.length cp, L, rfl, (J2.out.1.write FA).mono HKn.out, J2.out.2.1, LXK.nil _, ((H1.out.plan.below J2.out.2.2).write FA).mono HKn.out⟩, ?_⟩
      first | exact below_setRow B6.out (by omega) _ | (rw [hgb]; exact below_setRow B6.out (by omega) _)
end
end Go.Proofs.Ythnfpdmhjennlaa
