/- Journals: the contract of Read. Journals: the document's take; the same texts. -/
import Derived.Test.YtgncphoaknffnaaDoorR26
import Derived.Test.YtgncphoaknffnaaDoorX24
namespace Go.Proofs.YtgncphoaknffnaaDoor
open Go.RowKit
open Go.Deep
open Go.Lib
set_option linter.unusedVariables false
/-- What is read of a file whose front is right. -/
structure RdJ (w w' : World) (s : ByteArray) (ep : Nat) (v : Value) (L : List (List UInt8)) (a : Nat) : Prop where
  st : ∃ k, stJ ep s.data.toList k = some (L, a) ∧ stJ ep s.data.toList (k + 1) = none
  own : OX KS w' v (L.map txt)
  far : ∀ g, v.ownBlock = some g → w.heap.size ≤ g
  bel : Below w.heap.size w w'
theorem results_tmp4 {fn : Func} {t u v z : Tmp} (h : fn.results = #[.tmp t, .tmp u, .tmp v, .tmp z]) (tmps : Array Value) (P : Program) (w : World) : (results fn tmps).run P w = .ok (.tuple #[tmps.getD t undef, tmps.getD u undef, tmps.getD v undef, tmps.getD z undef]) w := by
  simp [results, h]
theorem onto_far {w W2 W3 : World} {v v' : Value} (on : Onto W2 W3 v v') (fr : ∀ g, v.ownBlock = some g → w.heap.size ≤ g) (bel : Below w.heap.size w W2) : (∀ g, v'.ownBlock = some g → w.heap.size ≤ g) ∧ Below w.heap.size w W3 := by
  have g := on.grown
  have h1 := bel.size
  refine ⟨fun k hk => ?_, bel.trans ⟨g.os, g.tape, g.output, g.size, fun k hk => g.block k (by omega) fun e => ?_⟩⟩
  · rcases on.lies with e | ⟨c, e, hc⟩
    · exact fr k (by rw [← e]; exact hk)
    · rw [e] at hk
      cases hk
      omega
  · have := fr k e.symm
    omega
theorem sl_from (s : ByteArray) (a : Nat) (ha : a ≤ s.size) (w : World) : (Instr.sliceAt 9 (.string s) (some (.int .i64 (a : Int))) none none).run Tryd.prog w = .ok (.string (s.extract a s.size)) w := by
  simp [Instr.sliceAt, Instr.slice, run_underlying Tryd.underlying9, Instr.sliceBounds, Instr.sliceBound, asIntOf, ha, Result.andThen]
section
set_option maxRecDepth 10000
set_option maxHeartbeats 2000000
theorem readJ_no (s : ByteArray) (hs : s.size ≤ maxLen) (w : World) (hK : Kg w) (hp : pfx s (txt (headL (thE s))) = false) : Calls Tryd.prog 11 #[.string s] w fun e w' => e = .returned (.tuple #[.int .u64 0, .slice none 0 0, .int .i64 0, .int .i64 120]) ∧ Below w.heap.size w w' := by
  have HT := hide (takeHead_any s hs w hK)
  rw [hp] at HT
  clear hp hK hs
  go_enter Tryd.func11, Tryd.ntmps11
  go_wp2_with (go_at_call 37; refine HT.out.mono ?_; rintro e w1 ⟨rfl, b1⟩; have B1 := hide b1; clear b1)
  (try simp only [Exit.inBlock, Exit.then])
  refine bodyPost_ret (results_tmp4 rfl _ _ _) rfl ?_
  exact ⟨rfl, B1.out⟩
theorem readJ_yes (s : ByteArray) (hs : s.size ≤ 140737488351232) (w : World) (hK : Kg w) (hp : pfx s (txt (headL (thE s))) = true) : Calls Tryd.prog 11 #[.string s] w fun e w' => ∃ v L a, e = .returned (.tuple #[.int .u64 (thE s), v, .int .i64 ((s.size : Int) - (a : Nat)), .int .i64 0]) ∧ RdJ w w' s (thE s) v L a := by
  have HT := hide (takeHead_any s (by unfold maxLen; omega) w hK)
  rw [hp] at HT
  have h20 := ((pfx_iff _ _).1 hp).1
  rw [txtJ_size, headL_len] at h20
  have hU : U64 (thE s) := by
    have i1 := rtake_inv s 0 0 8 (by omega) (by omega)
    have z2 := rtake_size s (rtake s 0 0 8).1 (rtake s 0 0 8).2.1 8 8 rfl i1.1
    unfold U64 thE
    exact leN_lt' _ 8 _ (by simpa using z2) (by decide)
  generalize thE s = ep at *
  have hsl : s.data.toList.length = s.size := by simp
  have FA := hide (stJ_facts ep s.data.toList (by rw [hsl]; exact h20))
  rw [hsl] at FA
  have HR : Hid (∀ (a no : Nat) W, no < 18446744073709551616 → Below w.heap.size w W → Calls Tryd.prog 38 #[.string (s.extract a s.size), .int .u64 ep, .int .u64 no] W fun e w' => e = .returned (.tuple #[.string (tkT (s.extract a s.size)), .bool (tkB ep no (s.extract a s.size))]) ∧ Below W.heap.size W w') := fun a no W hn b => takeRec_any ep no hU hn (s.extract a s.size) (by simp; unfold maxLen; omega) W (hK.next b)
  have HX : Hid (∀ a : Nat, (s.extract a s.size).data.toList = s.data.toList.drop a) := fun a => by
    rw [exJ, ← hsl, List.take_of_length_le (by simp)]
  have HS := hide hs
  clear hp hK hsl
  go_enter Tryd.func11, Tryd.ntmps11
  go_wp2_with (go_at_call 37; refine HT.out.mono ?_; rintro e w1 ⟨rfl, b1⟩; have B1 := hide b1; clear b1)
  clear hs
  go_loopw [8, 9] (fun v i wr => ∃ (k : Nat) (L : List (List UInt8)) (a : Nat), i = .int .i64 (a : Int) ∧ Hid (stJ ep s.data.toList k = some (L, a)) ∧ OX KS wr v (L.map txt) ∧ Hid (∀ g, v.ownBlock = some g → w.heap.size ≤ g) ∧ Hid (Below w.heap.size w wr)) (fun _ i _ => (s.size - intOf i).toNat)
  case atStart => exact ⟨0, [], 20, rfl, rfl, OX.nil _, (fun g hg => by cases hg), B1⟩
  case round =>
    clear B1 HT
    obtain ⟨k, L, a, rfl, ST, ho, FR, BL⟩ := hrel
    obtain ⟨rfl, f2, f3⟩ := FA.out k L a ST.out
    have hs := HS.out
    obtain ⟨ao, cc, rfl⟩ := ho.form
    have hLm : (L.map txt).length = L.length := by simp
    rw [hLm] at ho FR ⊢
    have hsl1 := sl_from s a f3 wr
    have e1 : IntKind.u64.wrap (L.length : Int) = (L.length : Int) := wrapu _ (by omega) (by omega)
    have HK := hide (HR.out a L.length wr (by omega) BL.out)
    obtain ⟨t1, t2⟩ := tk_spec ep L.length (s.extract a s.size)
    rw [HX.out a] at t1 t2
    have HO := hide ho
    clear ho hLm
    cases hr : rdRec ep L.length (s.data.toList.drop a) with
    | none =>
      rw [hr] at t1
      rw [t1] at HK
      have e2 : IntKind.i64.wrap ((s.size : Int) - (a : Int)) = (s.size : Int) - (a : Int) := wrapI _ (by omega) (by omega)
      have EN := hide (stJ_end ST.out hr)
      clear t1 t2 hr
      go_wp2_with (go_at_call 38; with_reducible refine HK.out.mono ?_; rintro e w2 ⟨rfl, b2⟩; have B2 := hide b2; clear b2)
      (try simp only [Exit.inBlock, Exit.then])
      refine bodyPost_ret (results_tmp4 rfl _ _ _) rfl ?_
      exact ⟨_, L, a, rfl, ⟨⟨_, ST.out, EN.out⟩, HO.out.below B2.out, FR.out, below_next BL.out B2.out⟩⟩
    | some y =>
      rw [hr] at t1
      rw [t1, t2 y hr] at HK
      have NX := hide (stJ_next ST.out hr)
      have r1 := (rdRec_some hr).1
      have r2 := (rdRec_some hr).2.1
      rw [List.length_drop, show s.data.toList.length = s.size by simp] at r1
      have zy : (txt y).size = y.length := txtJ_size y
      have e2 : IntKind.i64.wrap (16 + (y.length : Int)) = 16 + (y.length : Int) := wrapI _ (by omega) (by omega)
      have e3 : IntKind.i64.wrap ((a : Int) + (16 + (y.length : Int))) = (a : Int) + (16 + (y.length : Int)) := wrapI _ (by omega) (by omega)
      clear t1 t2 hr
      go_upto_region 9 with (go_at_call 38; with_reducible refine HK.out.mono ?_; rintro e w2 ⟨rfl, b2⟩; have B2 := hide b2; clear b2)
      have hbs := bsS w2 (txt y)
      have HA := hide (HO.out.below (B2.out.alloc B2.out.size (.cells #[.string (txt y)] 9)))
      clear HK hsl1 e1
      go_wp2_with (at_builtin; refine wpAppS rfl _ _ rfl (.slice ao L.length cc) (L.map txt) rfl HA.out ⟨_, 0, none⟩ 1 1 [txt y] rfl rfl (one_newX (E := KS) w2 (txt y)) (by rw [List.length_map]; omega) (by rw [List.length_map]; unfold maxLen; omega) ?_; intro v' W3 ho3 on3; obtain ⟨ao', cc', rfl⟩ := ho3.form; have H3 := hide ho3; have O3 := hide on3; clear ho3 on3)
      have OF := hide (onto_far O3.out FR.out ((below_next BL.out B2.out).alloc (below_next BL.out B2.out).size _))
      rw [show (L.map txt ++ [txt y]).length = L.length + 1 by simp] at OF
      go_roundw
      case rel =>
        refine ⟨L.length + 1, L ++ [y], a + (16 + y.length), by go_num, NX, ?_, OF.out.1, OF.out.2⟩
        have h4 := H3.out
        rw [show (L.map txt ++ [txt y]).length = L.length + 1 by simp] at h4
        rw [List.map_append]
        exact h4
      case measure => simp [intOf]; omega
end
end Go.Proofs.YtgncphoaknffnaaDoor
namespace Go.Proofs.YtgncphoaknffnaaDoor
open Go.RowKit
open Go.Deep
open Go.Lib
set_option linter.unusedVariables false
section
set_option maxRecDepth 10000
set_option maxHeartbeats 1000000
theorem rtakeJ_any (t : ByteArray) (w : World) (ht : t.size ≤ 8) : Calls Tryd.prog 39 #[.string t] w fun e w' => e = .returned (.int .u64 (leN t.data.toList)) ∧ w' = w := by
  have htl : t.data.toList.length = t.size := by simp
  have e0 : IntKind.i64.wrap ((t.size : Int) - 1) = (t.size : Int) - 1 := wrapI _ (by omega) (by omega)
  go_enter Tryd.func39, Tryd.ntmps39
  go_upto_region 3 with fail
  go_loop [3, 4] (fun n i => ∃ j : Nat, j ≤ t.size ∧ i = .int .i64 ((j : Int) - 1) ∧ n = .int .u64 (leN (t.data.toList.drop j) : Nat)) (fun n i => (intOf i + 1).toNat)
  case atStart => exact ⟨t.size, Nat.le_refl _, rfl, by rw [List.drop_of_length_le (by omega)]; rfl⟩
  case round =>
    obtain ⟨j, hj, rfl, rfl⟩ := hrel
    cases j with
    | zero =>
      rw [List.drop_zero]
      go_wp2
      go_ret
      exact ⟨rfl, rfl⟩
    | succ m =>
      rw [show ((m + 1 : Nat) : Int) - 1 = (m : Int) by omega]
      have h1 : (0 : Int) ≤ (m : Int) := by omega
      have h2 : (m : Int) < t.size := by omega
      have hd := leN_dropL t.data.toList m (by omega)
      have hlt := leN_lt8 (t.data.toList.drop (m + 1)) (by rw [List.length_drop]; omega)
      have hg : t.data.toList[m]'(by omega) = t[m]'(by omega) := rfl
      rw [hg] at hd
      have hb : (t[m]'(by omega)).toNat < 256 := UInt8.toNat_lt _
      generalize hN : leN (t.data.toList.drop (m + 1)) = N at *
      have e1 : IntKind.u64.wrap (256 * (N : Int)) = 256 * (N : Int) := wrapu _ (by omega) (by omega)
      have e2 : IntKind.u64.wrap (((t[m]'(by omega)).toNat : Int)) = ((t[m]'(by omega)).toNat : Int) := wrapu _ (by omega) (by omega)
      have e3 : IntKind.u64.wrap (256 * (N : Int) + ((t[m]'(by omega)).toNat : Int)) = 256 * (N : Int) + ((t[m]'(by omega)).toNat : Int) := wrapu _ (by omega) (by omega)
      have e4 : IntKind.i64.wrap ((m : Int) - 1) = (m : Int) - 1 := wrapI _ (by omega) (by omega)
      have KK := hide (show 256 * (N : Int) + ((t[m]'(by omega)).toNat : Int) = (leN (t.data.toList.drop m) : Nat) by omega)
      clear hd hN hg
      go_wp2
      go_round
      case rel => exact ⟨m, by omega, rfl, by rw [← KK.out]⟩
      case measure => simp [intOf]
theorem same_yes (L : List ByteArray) (v u : Value) (w : World) (hv : LX KS w v L) (hu : LX KS w u L) (hl : L.length ≤ 140737488355328) : Calls Tryd.prog 13 #[v, u] w fun e w' => e = .returned (.bool true) ∧ ∃ n, w' = w.drewN n := by
  have HV := hide hv
  have HU := hide hu
  obtain ⟨ao, c1, rfl⟩ := hv.form
  obtain ⟨bo, c2, rfl⟩ := hu.form
  clear hv hu
  go_enter Tryd.func13, Tryd.ntmps13
  go_upto_region 4 with fail
  go_loopw [13] (fun i wr => ∃ k : Nat, k ≤ L.length ∧ i = .int .i64 (k : Int) ∧ ∃ n, wr = w.drewN n) (fun i _ => (L.length - intOf i).toNat)
  case atStart => exact ⟨0, Nat.zero_le _, rfl, 0, rfl⟩
  case round =>
    obtain ⟨k, hk, rfl, nq, rfl⟩ := hrel
    by_cases hlt : k < L.length
    · obtain ⟨g, off, rfl⟩ := HV.out.base (by omega)
      obtain ⟨g', off', rfl⟩ := HU.out.base (by omega)
      have h1 : (0 : Int) ≤ (k : Int) := by omega
      have h2 : (k : Int) < L.length := by omega
      have r1 := HV.out.range k hlt 0 (.string L[k]) rfl
      have r2 := HU.out.range k hlt 0 (.string L[k]) rfl
      rw [show off + k * KS.k + 0 = off + k by show off + k * 1 + 0 = _; omega] at r1
      rw [show off' + k * KS.k + 0 = off' + k by show off' + k * 1 + 0 = _; omega] at r2
      have hq : ((L[k]).toList == (L[k]).toList) = true := by simp
      have e1 : IntKind.i64.wrap ((k : Int) + 1) = k + 1 := wrapI _ (by omega) (by omega)
      generalize L[k] = x at *
      go_upto_region 6 with fail
      go_region
      go_wp2
      go_roundw
      case rel => exact ⟨k + 1, by omega, by go_num, nq + 1, rfl⟩
      case measure => simp [intOf]; omega
    · have h2 : ¬ (k : Int) < L.length := by omega
      go_wp2
      go_ret
      exact ⟨rfl, nq, rfl⟩
end
end Go.Proofs.YtgncphoaknffnaaDoor
