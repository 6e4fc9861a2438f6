/- Journals: what the law does: a record is added. -/
import Derived.Test.YtgncphoaknffnaaGreatDoorP21
namespace Go.Proofs.YtgncphoaknffnaaGreatDoor
open Go.RowKit
open Go.Deep
open Go.Lib
set_option linter.unusedVariables false
section
variable {w : World} {ops : Array Oper} {o : Oper} {a : Act} {K : Act → World → Prop} {Q : Exit → Act → World → Prop} {E0 : Prop}
theorem stepAppS (hgd : o.guard = none) (s x : Operand)
    (ho : o.op = .call { callee := .builtin .append, args := #[s, x], argTypes := #[30, 30] })
    (v : Value) (L : List ByteArray) (hs : a.eval s = v) (hown : OX KS w v L) (y : Value) (N : List ByteArray) (hx : a.eval x = y) (hN : LX KS w y N) (hy : ∀ n c, y = .slice none n c → v = .slice (some ⟨v.ownBlock.getD 0, 0, none⟩) 0 0) (hsm : (L.length + N.length) * 16 ≤ 140737488355328) (h63 : L.length + N.length ≤ maxLen)
    (h : ∀ v' w', OX KS w' v' (L ++ N) → Onto w w' v v' → K (a.put o.dst v') w') :
    if Region.wanted o (yielded ops a.tmps) = true then Oper.wp Tryz.prog o a w K Q else E0 := by
  have hw : Region.wanted o (yielded ops a.tmps) = true := by simp [Region.wanted, hgd]
  rw [if_pos hw]
  obtain ⟨ao, cu, rfl⟩ := hN.form
  cases ao with
  | none =>
    have hn := hN.none_nil
    subst hn
    have hv := hy _ _ rfl
    have hr : (Builtin.append_ #[30, 30] o.type #[v, .slice none 0 cu]).run Tryz.prog w = .ok v w := by
      rw [hv]
      kernel_rfl
    unfold Oper.wp execOp
    simp only [ho, resolve, invoke, builtin, Sem.run_bind, Sem.run_pure, Result.andThen_ok, List.map_toArray, List.map_cons, List.map_nil, hs, hx]
    rw [show (Builtin.append_ #[30, 30] o.type #[v, .slice none ([] : List ByteArray).length cu]).run Tryz.prog w = .ok v w from hr]
    refine h v w (by rw [List.append_nil]; exact hown) ⟨⟨rfl, rfl, rfl, Nat.le_refl _, fun _ _ _ => rfl⟩, .inl rfl⟩
  | some ad =>
    obtain ⟨v', w', hr, h2, h3⟩ := KS.app (ty := o.type) hown ad N.length cu N rfl hN.newsS hsm h63
    unfold Oper.wp execOp
    simp only [ho, resolve, invoke, builtin, Sem.run_bind, Sem.run_pure, Result.andThen_ok, List.map_toArray, List.map_cons, List.map_nil, hs, hx]
    rw [show (Builtin.append_ #[30, 30] o.type #[v, .slice (some ad) N.length cu]).run Tryz.prog w = .ok v' w' from hr]
    exact h v' w' h2 h3
end
theorem lx_one (W : World) (s : ByteArray) : LX KS (W.alloc (.cells #[.string s] 9)) (.slice (some ⟨W.heap.size, 0, none⟩) 1 1) [s] := by
  refine ⟨_, _, rfl, Nat.le_refl _, fun i hi => ⟨_, 0, rfl, by simp, fun j u hu => ?_⟩⟩
  have h0 : i = 0 := by simp at hi; omega
  subst h0
  have hj : j = 0 := by
    rcases j with _ | j
    · rfl
    · simp [KS] at hu
  subst hj
  have e : u = .string s := by
    simp [KS] at hu
    exact hu.symm
  rw [e, cell_of_row _ _ _ _ _ _ (heap_alloc_last W _)]
  rfl
theorem ox_none (W : World) : OX KS (W.alloc (.cells #[] 9)) (.slice (some ⟨W.heap.size, 0, none⟩) 0 0) [] := World.ownsRow_made W #[] 0 (Nat.zero_le _) (Nat.zero_le _) rfl
theorem LX.onto {W W2 : World} {v v' y : Value} {N : List ByteArray} (h : LX KS W y N) (on : Onto W W2 v v') (hy : ∀ g, y.ownBlock = some g → v.ownBlock ≠ some g) : LX KS W2 y N := by
  have g := on.grown
  exact h.fr (K := fun k => v.ownBlock = some k) hy ⟨g.os, g.tape, g.output, g.size, fun k hk hn => g.block k hk (fun e => hn e.symm)⟩
theorem js_over {T T3 : Nat → Prop} {gj gj' gd : Nat} {v v3 : Value} {W0 w3 : World} {J' : Jr} {x' : StD} (j3 : JB (js T gj v) W0 w3 gj' gd J' x' T3 v3) {g : Nat} (hlt : g < W0.heap.size) (hn : ¬ js T gj v g) : ¬ js T3 gj' v3 g := fun c => by
  have : js T gj v g ∨ W0.heap.size ≤ g := by
    rcases c with c | c | c
    · exact j3.far _ c
    · exact c ▸ j3.jfar
    · exact (j3.vfar _ c).1
  rcases this with c | c
  · exact hn c
  · omega
theorem AP.fin2 {K : Nat → Prop} {B w3 : World} {gj' gd c g : Nat} {x' : StD} {T3 : Nat → Prop} {v3 u' : Value} {ep' torn' : Nat} {L' : List ByteArray} (j3 : JB K B w3 gj' gd ⟨logN, ep', L', torn', false⟩ x' T3 v3) (hb : B.heap.size ≤ g) (hn : ¬ js T3 gj' v3 g) (m3 : MU w3 T3 gj' v3 u' L') (hu : u'.ownBlock ≠ some g) (d3 : Ds x' ep' L' (c + 1)) (b : Value) (hbv : b = .int .u64 (ep' : Int)) : AP K B gd c (.returned (.tuple #[.pointer (some ⟨gj', 0, none⟩), .agg #[u', b], .bool true])) (st2 w3 g u' b) := by
  subst hbv
  exact ⟨gj', u', ep', L', torn', x', T3, v3, rfl, j3.write (st2_fr _ _ _ _) (.inr hb) hn, m3.write (st2_fr _ _ _ _) hu, d3⟩
/-- A list is put into the model. -/
theorem storeM {K : Nat → Prop} {B w W : World} {gj gd ep : Nat} {J : Jr} {x : StD} {T : Nat → Prop} {v u u' : Value} {R : List ByteArray} {kind n : Int} {s : ByteArray} (j : JB K B W gj gd J x T v) (A : Ac w W u ep kind n s) (m : MU W T gj v u' R) (hb : B.heap.size ≤ w.heap.size) (hn : ¬ js T gj v w.heap.size) (hu : u'.ownBlock ≠ some w.heap.size) : Ac w (W.setCell ⟨w.heap.size, 0, none⟩ u') u' ep kind n s ∧ JB K B (W.setCell ⟨w.heap.size, 0, none⟩ u') gj gd J x T v ∧ MU (W.setCell ⟨w.heap.size, 0, none⟩ u') T gj v u' R := by
  have f := Fr.setCell (S := fun k => k = w.heap.size) W (p := ⟨w.heap.size, 0, none⟩) rfl u'
  refine ⟨⟨heap_setCell_same W w.heap.size 0 _ _ u' A.m, (f.block _ (lt_heap A.a) (by omega)).trans A.a, (f.block _ (lt_heap A.r) (by omega)).trans A.r⟩, j.write f (.inr hb) hn, m.write f hu⟩
section
set_option maxRecDepth 10000
set_option maxHeartbeats 2000000
variable {K : Nat → Prop} {B w : World} {gj gd : Nat} {x : StD} {T : Nat → Prop} {v : Value}
theorem act_add0 {ep torn c : Nat} {L : List ByteArray} {u : Value} {kind n : Int} {s : ByteArray} (h : JB K B w gj gd ⟨logN, ep, L, torn, false⟩ x T v) (hu : MU w T gj v u L) (hd : Ds x ep L c) (hc : c < 60) (hK : KB K B) (hs : s.size ≤ 70000) (hk1 : wrap64 (kind.tmod 6 + 6) = kind.tmod 6 + 6) (hk : (kind.tmod 6 + 6).tmod 6 = 0) (hl : s.size ≤ 65536) : Calls Tryz.prog 8 #[.pointer (some ⟨gj, 0, none⟩), .pointer (some ⟨gd, 0, none⟩), .agg #[u, .int .u64 (ep : Int)], .agg #[.int .i64 kind, .int .i64 n, .string s]] w fun e w' => AP K B gd c e w' := by
  obtain ⟨ao, cu, rfl⟩ := hu.lx.form
  have b0 := acW_bel w (.slice ao L.length cu) ep kind n s
  have AC := hide (acW_ac w (.slice ao L.length cu) ep kind n s)
  have H0 := hide (h.next b0)
  have H1 := hide (h.next b0).here
  have HJ := hide (js_not h)
  have HM := hide (hu.next b0)
  have HUn : Hid (∀ g, w.heap.size ≤ g → Value.ownBlock (.slice ao L.length cu) ≠ some g) := fun g hg e => by
    have := (hu.far g e).1
    omega
  have HBs : Hid (B.heap.size ≤ w.heap.size + 1 + 1) := by
    have := h.bel.size
    show _ ≤ _
    omega
  have KB1 : Hid (KB (js T gj v) (acW w (.slice ao L.length cu) ep kind n s)) := by
    have kg := hK.at_ (h.next b0).bel
    refine ⟨kg, fun c => ?_⟩
    have up : K 0 ∨ B.heap.size ≤ 0 := by
      rcases c with c | c | c
      · exact h.far _ c
      · exact c ▸ h.jfar
      · exact (h.vfar _ c).1
    rcases up with c | c
    · exact hK.2 c
    · have := hK.1.lt
      omega
  have HA := hide fun K' B' W T' (hk : KB K' B') (j : JB K' B' W gj gd ⟨logN, ep, L, torn, false⟩ x T' v) => add_ok j hk s rfl hl (by have := hd.epo; show ep < _; omega) (by have := hd.many; show L.length ≤ _; omega) hd.vd hd.plan hd.rdy (by show (x.now.at (ls logN)).length + _ ≤ _; rw [hd.at_, fileL_len]; have := hd.fl; omega) hd.some_ (by have := hd.loose; omega) (by have := hd.made; omega)
  have DS := hide (hd.add hc s hl)
  have HBs2 := hide h.bel.size
  have HLn := hide (show L.length ≤ 60 by have := hd.many; omega)
  have a2 := AC.out.a2
  have l1 : ¬ (65536 : Int) < s.size := by omega
  unfold adC at HA
  clear hl
  unfold acW at *
  clear h hu hd hc b0 hK
  go_enter Tryz.func8, Tryz.ntmps8
  go_upto_region 23 with fail
  generalize ((w.alloc (.cells #[.slice ao L.length cu, .int .u64 (ep : Int)] 33)).alloc (.cells #[.int .i64 kind, .int .i64 n, .string s] 35)).alloc (.cells #[.slice none 0 0, .int .u64 0] 33) = W0 at *
  go_upto_region 26 with (go_at_call 18; refine (HA.out _ _ _ _ KB1.out H1.out).mono ?_; rintro e w3 ⟨rfl, T3, v3, j3⟩; have J3 := hide j3; have A3 := hide (AC.out.fr j3.bel HJ.out); have a2 := (AC.out.fr j3.bel HJ.out).a2; clear j3)
  have JO := hide (H0.out.back J3.out)
  have HLr := hide (lt_heap AC.out.r)
  have N3 : Hid (∀ g, w.heap.size ≤ g → g < w.heap.size + 3 → ¬ js T3 gj v3 g) := fun g h1 h2 => js_over J3.out (by have := HLr.out; omega) (HJ.out g h1 h2)
  have M3 := hide (HM.out.over J3.out)
  have HBw : Hid (B.heap.size ≤ w.heap.size) := HBs2.out
  have L3 := hide (lt_heap A3.out.r)
  have HSS : Hid (∀ W, Below w3.heap.size w3 W → W.cell? ⟨w.heap.size + 1, 2, none⟩ = some (.string s)) := fun W b => (A3.out.next b).a2
  clear H0 H1 HM AC HA KB1 J3
  go_cut [] from 162 to 170 (fun wx => ∃ u', Hid (Ac w wx u' ep kind n s ∧ JB K B wx gj gd ⟨logN, ep, L ++ [s], torn, false⟩ (mkC x (wrC logN (x.now.at (ls logN)).length (txt (recL ep L.length s.data.toList)))) T3 v3 ∧ MU wx T3 gj v3 u' (L ++ [s]) ∧ u'.ownBlock ≠ some (w.heap.size + 1 + 1)))
  case first =>
    refine wp_region_held_drew (S := fun W => W.cell? ⟨w.heap.size + 1, 2, none⟩ = some (.string s)) (by kernel_rfl) (HSS.out _ (Below.refl _ _).drew) (fun hH => ?_)
    refine wpAnyH_take (i := 1) (v := .pointer (some ⟨w.heap.size, 0, none⟩)) rfl (by kernel_rfl) (by kernel_rfl) (by kernel_rfl) (fun _ _ _ h => h) (.inl ⟨by rfl, fun W _ => by go_simp⟩) hH ?_
    change wpAnyH _ _ _ _ _ _ _ (Act.put _ (some 163) _) _
    simp only [Act.put, List.setIfInBounds_toArray, List.set_cons_zero, List.set_cons_succ]
    refine wpAnyH_take (i := 4) (v := .pointer (some ⟨w.heap.size + 1, 2, none⟩)) rfl (by kernel_rfl) (by kernel_rfl) (by kernel_rfl) (fun _ _ _ h => h) (.inl ⟨by rfl, fun W _ => by go_simp⟩) hH ?_
    change wpAnyH _ _ _ _ _ _ _ (Act.put _ (some 166) _) _
    simp only [Act.put, List.setIfInBounds_toArray, List.set_cons_zero, List.set_cons_succ]
    refine wpAnyH_take (i := 5) (v := .string s) rfl (by kernel_rfl) (by kernel_rfl) (by kernel_rfl) (fun _ _ _ h => h) (.inl ⟨by rfl, fun W hS => by have c4 := hS; go_simp⟩) hH ?_
    change wpAnyH _ _ _ _ _ _ _ (Act.put _ (some 167) _) _
    simp only [Act.put, List.setIfInBounds_toArray, List.set_cons_zero, List.set_cons_succ]
    have BD := hide (Below.refl w3.heap.size w3).drew
    generalize w3.drew = wd at *
    refine wpAnyH_ready (rs := [0, 2, 6]) (by kernel_rfl) (by simp) (AllReadyH.cons rfl (fun K1 hK1 => ?_) (AllReadyH.cons rfl (fun K1 hK1 => ?_) (AllReadyH.cons rfl (fun K1 hK1 => ?_) AllReadyH.nil)))
    · have h5 := bs0T wd
      go_simp
      have O0 := hide (ox_none wd)
      have C1 := hide (BD.out.alloc BD.out.size (.cells #[] 9))
      refine hK1.out _ _ (HSS.out _ C1.out) (fun hH => ?_)
      clear hK1 h5
      have g0 := hide (show w3.heap.size ≤ wd.heap.size from BD.out.size)
      have hz1 := hide (show (wd.alloc (.cells #[] 9)).heap.size = wd.heap.size + 1 by simp)
      generalize wd.alloc (.cells #[] 9) = w0_1 at *
      refine wpAnyH_ready (rs := [2, 6]) (by kernel_rfl) (by simp) (AllReadyH.cons rfl (fun K1 hK1 => ?_) (AllReadyH.cons rfl (fun K1 hK1 => ?_) AllReadyH.nil))
      · have m2 := (A3.out.next C1.out).m0
        go_simp
        refine hK1.out _ _ (HSS.out _ C1.out) (fun hH => ?_)
        clear hK1 m2
        refine wpAnyH_ready (rs := [3, 6]) (by kernel_rfl) (by simp) (AllReadyH.cons rfl (fun K1 hK1 => ?_) (AllReadyH.cons rfl (fun K1 hK1 => ?_) AllReadyH.nil))
        · refine stepAppS (by rfl) _ _ (by rfl) (.slice (some ⟨wd.heap.size, 0, none⟩) 0 0) [] (by rfl) O0.out (.slice ao L.length cu) L (by rfl) (M3.out.lx.below C1.out) (fun _ _ _ => rfl) (by have := HLn.out; simp; omega) (by have := HLn.out; unfold maxLen; simp; omega) ?_
          intro v3 w3_3 o3 on3
          show K1 (Act.put _ (some 165) _) _
          have OF3 := hide (onto_far on3 (w := w3) (fun g hg => by cases hg; exact g0.out) C1.out)
          have O3 := hide o3
          rw [List.nil_append] at O3
          clear o3 on3
          refine hK1.out _ _ (HSS.out _ OF3.out.2) (fun hH => ?_)
          clear hK1
          refine wpAnyH_ready (rs := [6]) (by kernel_rfl) (by simp) (AllReadyH.cons rfl (fun K1 hK1 => ?_) AllReadyH.nil)
          have h5 := bsS w3_3 s
          go_simp
          have Y4 := hide (lx_one w3_3 s)
          have C4 := hide (OF3.out.2.alloc OF3.out.2.size (.cells #[.string s] 9))
          refine hK1.out _ _ (HSS.out _ C4.out) (fun hH => ?_)
          clear hK1 h5
          have O4 := hide (O3.out.below ((Below.refl _ _).alloc (Nat.le_refl _) (.cells #[.string s] 9)))
          have hz4 := hide (show (w3_3.alloc (.cells #[.string s] 9)).heap.size = w3_3.heap.size + 1 by simp)
          generalize w3_3.alloc (.cells #[.string s] 9) = w6_4 at *
          refine wpAnyH_ready (rs := [7]) (by kernel_rfl) (by simp) (AllReadyH.cons rfl (fun K1 hK1 => ?_) AllReadyH.nil)
          refine stepAppS (by rfl) _ _ (by rfl) v3 L (by rfl) O4.out (.slice (some ⟨w3_3.heap.size, 0, none⟩) 1 1) [s] (by rfl) Y4.out (fun _ _ e => by cases e) (by have := HLn.out; simp; omega) (by have := HLn.out; unfold maxLen; simp; omega) ?_
          intro v5 w7_5 o5 on5
          show K1 (Act.put _ (some 169) _) _
          have OF5 := hide (onto_far on5 (w := w3) OF3.out.1 C4.out)
          have O5 := hide o5
          clear o5 on5
          refine hK1.out _ _ (HSS.out _ OF5.out.2) (fun hH => ?_)
          clear hK1
          obtain ⟨ao9, c9, e9⟩ := O5.out.form
          rw [List.length_append, List.length_singleton] at e9
          subst e9
          have A9 := hide (A3.out.next OF5.out.2)
          have m9 := A9.out.m0
          have f9 := frozen_of_row _ _ 0 _ _ A9.out.m
          have U9 : Hid (∀ g, Value.ownBlock (.slice ao9 (L.length + 1) c9) = some g → w3.heap.size ≤ g) := OF5.out.1
          have MM := hide (MU.made JO.out O5.out OF5.out.2 U9.out)
          have ST := hide (storeM (JO.out.next OF5.out.2) A9.out MM.out HBw.out (N3.out _ (Nat.le_refl _) (by omega)) (fun e => by have := U9.out _ e; have := L3.out; omega))
          refine wpAnyH_take (i := 8) (v := .pointer (some ⟨w.heap.size, 0, none⟩)) rfl (by kernel_rfl) (by kernel_rfl) (by kernel_rfl) (fun _ _ _ h => h) (.inl ⟨by rfl, fun W _ => by go_simp⟩) hH ?_
          change wpAnyH _ _ _ _ _ _ _ (Act.put _ (some 170) _) _
          simp only [Act.put, List.setIfInBounds_toArray, List.set_cons_zero, List.set_cons_succ]
          refine wpAnyH_ready (rs := [9]) (by kernel_rfl) (by simp) (AllReadyH.cons rfl (fun K1 hK1 => ?_) AllReadyH.nil)
          go_simp
          refine hK1.out _ _ ST.out.1.a2 (fun hH => ?_)
          clear hK1
          refine wpAnyH_done (by kernel_rfl) ?_ _
          go_wp2_with fail
          go_meet
          exact ⟨_, ST.out.1, ST.out.2.1, ST.out.2.2, fun e => by have := U9.out _ e; have := L3.out; omega⟩
        · have h5 := bsS w0_1 s
          go_simp
          have Y3 := hide (lx_one w0_1 s)
          have C3 := hide (C1.out.alloc C1.out.size (.cells #[.string s] 9))
          refine hK1.out _ _ (HSS.out _ C3.out) (fun hH => ?_)
          clear hK1 h5
          have O3 := hide (O0.out.below ((Below.refl _ _).alloc (Nat.le_refl _) (.cells #[.string s] 9)))
          have hz3 := hide (show (w0_1.alloc (.cells #[.string s] 9)).heap.size = w0_1.heap.size + 1 by simp)
          generalize w0_1.alloc (.cells #[.string s] 9) = w6_3 at *
          refine wpAnyH_ready (rs := [3]) (by kernel_rfl) (by simp) (AllReadyH.cons rfl (fun K1 hK1 => ?_) AllReadyH.nil)
          refine stepAppS (by rfl) _ _ (by rfl) (.slice (some ⟨wd.heap.size, 0, none⟩) 0 0) [] (by rfl) O3.out (.slice ao L.length cu) L (by rfl) (M3.out.lx.below C3.out) (fun _ _ _ => rfl) (by have := HLn.out; simp; omega) (by have := HLn.out; unfold maxLen; simp; omega) ?_
          intro v4 w3_4 o4 on4
          show K1 (Act.put _ (some 165) _) _
          have OF4 := hide (onto_far on4 (w := w3) (fun g hg => by cases hg; exact g0.out) C3.out)
          have Y4 := hide (Y3.out.onto on4 (fun g hg e => by have e1 : w0_1.heap.size = g := Option.some.inj hg; have e2 : wd.heap.size = g := Option.some.inj e; have q1 := hz1.out; have q3 := hz3.out; omega))
          have O4 := hide o4
          rw [List.nil_append] at O4
          clear o4 on4
          refine hK1.out _ _ (HSS.out _ OF4.out.2) (fun hH => ?_)
          clear hK1
          refine wpAnyH_ready (rs := [7]) (by kernel_rfl) (by simp) (AllReadyH.cons rfl (fun K1 hK1 => ?_) AllReadyH.nil)
          refine stepAppS (by rfl) _ _ (by rfl) v4 L (by rfl) O4.out (.slice (some ⟨w0_1.heap.size, 0, none⟩) 1 1) [s] (by rfl) Y4.out (fun _ _ e => by cases e) (by have := HLn.out; simp; omega) (by have := HLn.out; unfold maxLen; simp; omega) ?_
          intro v5 w7_5 o5 on5
          show K1 (Act.put _ (some 169) _) _
          have OF5 := hide (onto_far on5 (w := w3) OF4.out.1 OF4.out.2)
          have O5 := hide o5
          clear o5 on5
          refine hK1.out _ _ (HSS.out _ OF5.out.2) (fun hH => ?_)
          clear hK1
          obtain ⟨ao9, c9, e9⟩ := O5.out.form
          rw [List.length_append, List.length_singleton] at e9
          subst e9
          have A9 := hide (A3.out.next OF5.out.2)
          have m9 := A9.out.m0
          have f9 := frozen_of_row _ _ 0 _ _ A9.out.m
          have U9 : Hid (∀ g, Value.ownBlock (.slice ao9 (L.length + 1) c9) = some g → w3.heap.size ≤ g) := OF5.out.1
          have MM := hide (MU.made JO.out O5.out OF5.out.2 U9.out)
          have ST := hide (storeM (JO.out.next OF5.out.2) A9.out MM.out HBw.out (N3.out _ (Nat.le_refl _) (by omega)) (fun e => by have := U9.out _ e; have := L3.out; omega))
          refine wpAnyH_take (i := 8) (v := .pointer (some ⟨w.heap.size, 0, none⟩)) rfl (by kernel_rfl) (by kernel_rfl) (by kernel_rfl) (fun _ _ _ h => h) (.inl ⟨by rfl, fun W _ => by go_simp⟩) hH ?_
          change wpAnyH _ _ _ _ _ _ _ (Act.put _ (some 170) _) _
          simp only [Act.put, List.setIfInBounds_toArray, List.set_cons_zero, List.set_cons_succ]
          refine wpAnyH_ready (rs := [9]) (by kernel_rfl) (by simp) (AllReadyH.cons rfl (fun K1 hK1 => ?_) AllReadyH.nil)
          go_simp
          refine hK1.out _ _ ST.out.1.a2 (fun hH => ?_)
          clear hK1
          refine wpAnyH_done (by kernel_rfl) ?_ _
          go_wp2_with fail
          go_meet
          exact ⟨_, ST.out.1, ST.out.2.1, ST.out.2.2, fun e => by have := U9.out _ e; have := L3.out; omega⟩
      · have h5 := bsS w0_1 s
        go_simp
        have Y2 := hide (lx_one w0_1 s)
        have C2 := hide (C1.out.alloc C1.out.size (.cells #[.string s] 9))
        refine hK1.out _ _ (HSS.out _ C2.out) (fun hH => ?_)
        clear hK1 h5
        have O2 := hide (O0.out.below ((Below.refl _ _).alloc (Nat.le_refl _) (.cells #[.string s] 9)))
        have hz2 := hide (show (w0_1.alloc (.cells #[.string s] 9)).heap.size = w0_1.heap.size + 1 by simp)
        generalize w0_1.alloc (.cells #[.string s] 9) = w6_2 at *
        refine wpAnyH_ready (rs := [2]) (by kernel_rfl) (by simp) (AllReadyH.cons rfl (fun K1 hK1 => ?_) AllReadyH.nil)
        have m2 := (A3.out.next C2.out).m0
        go_simp
        refine hK1.out _ _ (HSS.out _ C2.out) (fun hH => ?_)
        clear hK1 m2
        refine wpAnyH_ready (rs := [3]) (by kernel_rfl) (by simp) (AllReadyH.cons rfl (fun K1 hK1 => ?_) AllReadyH.nil)
        refine stepAppS (by rfl) _ _ (by rfl) (.slice (some ⟨wd.heap.size, 0, none⟩) 0 0) [] (by rfl) O2.out (.slice ao L.length cu) L (by rfl) (M3.out.lx.below C2.out) (fun _ _ _ => rfl) (by have := HLn.out; simp; omega) (by have := HLn.out; unfold maxLen; simp; omega) ?_
        intro v4 w3_4 o4 on4
        show K1 (Act.put _ (some 165) _) _
        have OF4 := hide (onto_far on4 (w := w3) (fun g hg => by cases hg; exact g0.out) C2.out)
        have Y4 := hide (Y2.out.onto on4 (fun g hg e => by have e1 : w0_1.heap.size = g := Option.some.inj hg; have e2 : wd.heap.size = g := Option.some.inj e; have q1 := hz1.out; have q2 := hz2.out; omega))
        have O4 := hide o4
        rw [List.nil_append] at O4
        clear o4 on4
        refine hK1.out _ _ (HSS.out _ OF4.out.2) (fun hH => ?_)
        clear hK1
        refine wpAnyH_ready (rs := [7]) (by kernel_rfl) (by simp) (AllReadyH.cons rfl (fun K1 hK1 => ?_) AllReadyH.nil)
        refine stepAppS (by rfl) _ _ (by rfl) v4 L (by rfl) O4.out (.slice (some ⟨w0_1.heap.size, 0, none⟩) 1 1) [s] (by rfl) Y4.out (fun _ _ e => by cases e) (by have := HLn.out; simp; omega) (by have := HLn.out; unfold maxLen; simp; omega) ?_
        intro v5 w7_5 o5 on5
        show K1 (Act.put _ (some 169) _) _
        have OF5 := hide (onto_far on5 (w := w3) OF4.out.1 OF4.out.2)
        have O5 := hide o5
        clear o5 on5
        refine hK1.out _ _ (HSS.out _ OF5.out.2) (fun hH => ?_)
        clear hK1
        obtain ⟨ao9, c9, e9⟩ := O5.out.form
        rw [List.length_append, List.length_singleton] at e9
        subst e9
        have A9 := hide (A3.out.next OF5.out.2)
        have m9 := A9.out.m0
        have f9 := frozen_of_row _ _ 0 _ _ A9.out.m
        have U9 : Hid (∀ g, Value.ownBlock (.slice ao9 (L.length + 1) c9) = some g → w3.heap.size ≤ g) := OF5.out.1
        have MM := hide (MU.made JO.out O5.out OF5.out.2 U9.out)
        have ST := hide (storeM (JO.out.next OF5.out.2) A9.out MM.out HBw.out (N3.out _ (Nat.le_refl _) (by omega)) (fun e => by have := U9.out _ e; have := L3.out; omega))
        refine wpAnyH_take (i := 8) (v := .pointer (some ⟨w.heap.size, 0, none⟩)) rfl (by kernel_rfl) (by kernel_rfl) (by kernel_rfl) (fun _ _ _ h => h) (.inl ⟨by rfl, fun W _ => by go_simp⟩) hH ?_
        change wpAnyH _ _ _ _ _ _ _ (Act.put _ (some 170) _) _
        simp only [Act.put, List.setIfInBounds_toArray, List.set_cons_zero, List.set_cons_succ]
        refine wpAnyH_ready (rs := [9]) (by kernel_rfl) (by simp) (AllReadyH.cons rfl (fun K1 hK1 => ?_) AllReadyH.nil)
        go_simp
        refine hK1.out _ _ ST.out.1.a2 (fun hH => ?_)
        clear hK1
        refine wpAnyH_done (by kernel_rfl) ?_ _
        go_wp2_with fail
        go_meet
        exact ⟨_, ST.out.1, ST.out.2.1, ST.out.2.2, fun e => by have := U9.out _ e; have := L3.out; omega⟩
    · have m2 := (A3.out.next BD.out).m0
      go_simp
      refine hK1.out _ _ (HSS.out _ BD.out) (fun hH => ?_)
      clear hK1 m2
      refine wpAnyH_ready (rs := [0, 6]) (by kernel_rfl) (by simp) (AllReadyH.cons rfl (fun K1 hK1 => ?_) (AllReadyH.cons rfl (fun K1 hK1 => ?_) AllReadyH.nil))
      · have h5 := bs0T wd
        go_simp
        have O0 := hide (ox_none wd)
        have C2 := hide (BD.out.alloc BD.out.size (.cells #[] 9))
        refine hK1.out _ _ (HSS.out _ C2.out) (fun hH => ?_)
        clear hK1 h5
        have g0 := hide (show w3.heap.size ≤ wd.heap.size from BD.out.size)
        have hz2 := hide (show (wd.alloc (.cells #[] 9)).heap.size = wd.heap.size + 1 by simp)
        generalize wd.alloc (.cells #[] 9) = w0_2 at *
        refine wpAnyH_ready (rs := [3, 6]) (by kernel_rfl) (by simp) (AllReadyH.cons rfl (fun K1 hK1 => ?_) (AllReadyH.cons rfl (fun K1 hK1 => ?_) AllReadyH.nil))
        · refine stepAppS (by rfl) _ _ (by rfl) (.slice (some ⟨wd.heap.size, 0, none⟩) 0 0) [] (by rfl) O0.out (.slice ao L.length cu) L (by rfl) (M3.out.lx.below C2.out) (fun _ _ _ => rfl) (by have := HLn.out; simp; omega) (by have := HLn.out; unfold maxLen; simp; omega) ?_
          intro v3 w3_3 o3 on3
          show K1 (Act.put _ (some 165) _) _
          have OF3 := hide (onto_far on3 (w := w3) (fun g hg => by cases hg; exact g0.out) C2.out)
          have O3 := hide o3
          rw [List.nil_append] at O3
          clear o3 on3
          refine hK1.out _ _ (HSS.out _ OF3.out.2) (fun hH => ?_)
          clear hK1
          refine wpAnyH_ready (rs := [6]) (by kernel_rfl) (by simp) (AllReadyH.cons rfl (fun K1 hK1 => ?_) AllReadyH.nil)
          have h5 := bsS w3_3 s
          go_simp
          have Y4 := hide (lx_one w3_3 s)
          have C4 := hide (OF3.out.2.alloc OF3.out.2.size (.cells #[.string s] 9))
          refine hK1.out _ _ (HSS.out _ C4.out) (fun hH => ?_)
          clear hK1 h5
          have O4 := hide (O3.out.below ((Below.refl _ _).alloc (Nat.le_refl _) (.cells #[.string s] 9)))
          have hz4 := hide (show (w3_3.alloc (.cells #[.string s] 9)).heap.size = w3_3.heap.size + 1 by simp)
          generalize w3_3.alloc (.cells #[.string s] 9) = w6_4 at *
          refine wpAnyH_ready (rs := [7]) (by kernel_rfl) (by simp) (AllReadyH.cons rfl (fun K1 hK1 => ?_) AllReadyH.nil)
          refine stepAppS (by rfl) _ _ (by rfl) v3 L (by rfl) O4.out (.slice (some ⟨w3_3.heap.size, 0, none⟩) 1 1) [s] (by rfl) Y4.out (fun _ _ e => by cases e) (by have := HLn.out; simp; omega) (by have := HLn.out; unfold maxLen; simp; omega) ?_
          intro v5 w7_5 o5 on5
          show K1 (Act.put _ (some 169) _) _
          have OF5 := hide (onto_far on5 (w := w3) OF3.out.1 C4.out)
          have O5 := hide o5
          clear o5 on5
          refine hK1.out _ _ (HSS.out _ OF5.out.2) (fun hH => ?_)
          clear hK1
          obtain ⟨ao9, c9, e9⟩ := O5.out.form
          rw [List.length_append, List.length_singleton] at e9
          subst e9
          have A9 := hide (A3.out.next OF5.out.2)
          have m9 := A9.out.m0
          have f9 := frozen_of_row _ _ 0 _ _ A9.out.m
          have U9 : Hid (∀ g, Value.ownBlock (.slice ao9 (L.length + 1) c9) = some g → w3.heap.size ≤ g) := OF5.out.1
          have MM := hide (MU.made JO.out O5.out OF5.out.2 U9.out)
          have ST := hide (storeM (JO.out.next OF5.out.2) A9.out MM.out HBw.out (N3.out _ (Nat.le_refl _) (by omega)) (fun e => by have := U9.out _ e; have := L3.out; omega))
          refine wpAnyH_take (i := 8) (v := .pointer (some ⟨w.heap.size, 0, none⟩)) rfl (by kernel_rfl) (by kernel_rfl) (by kernel_rfl) (fun _ _ _ h => h) (.inl ⟨by rfl, fun W _ => by go_simp⟩) hH ?_
          change wpAnyH _ _ _ _ _ _ _ (Act.put _ (some 170) _) _
          simp only [Act.put, List.setIfInBounds_toArray, List.set_cons_zero, List.set_cons_succ]
          refine wpAnyH_ready (rs := [9]) (by kernel_rfl) (by simp) (AllReadyH.cons rfl (fun K1 hK1 => ?_) AllReadyH.nil)
          go_simp
          refine hK1.out _ _ ST.out.1.a2 (fun hH => ?_)
          clear hK1
          refine wpAnyH_done (by kernel_rfl) ?_ _
          go_wp2_with fail
          go_meet
          exact ⟨_, ST.out.1, ST.out.2.1, ST.out.2.2, fun e => by have := U9.out _ e; have := L3.out; omega⟩
        · have h5 := bsS w0_2 s
          go_simp
          have Y3 := hide (lx_one w0_2 s)
          have C3 := hide (C2.out.alloc C2.out.size (.cells #[.string s] 9))
          refine hK1.out _ _ (HSS.out _ C3.out) (fun hH => ?_)
          clear hK1 h5
          have O3 := hide (O0.out.below ((Below.refl _ _).alloc (Nat.le_refl _) (.cells #[.string s] 9)))
          have hz3 := hide (show (w0_2.alloc (.cells #[.string s] 9)).heap.size = w0_2.heap.size + 1 by simp)
          generalize w0_2.alloc (.cells #[.string s] 9) = w6_3 at *
          refine wpAnyH_ready (rs := [3]) (by kernel_rfl) (by simp) (AllReadyH.cons rfl (fun K1 hK1 => ?_) AllReadyH.nil)
          refine stepAppS (by rfl) _ _ (by rfl) (.slice (some ⟨wd.heap.size, 0, none⟩) 0 0) [] (by rfl) O3.out (.slice ao L.length cu) L (by rfl) (M3.out.lx.below C3.out) (fun _ _ _ => rfl) (by have := HLn.out; simp; omega) (by have := HLn.out; unfold maxLen; simp; omega) ?_
          intro v4 w3_4 o4 on4
          show K1 (Act.put _ (some 165) _) _
          have OF4 := hide (onto_far on4 (w := w3) (fun g hg => by cases hg; exact g0.out) C3.out)
          have Y4 := hide (Y3.out.onto on4 (fun g hg e => by have e1 : w0_2.heap.size = g := Option.some.inj hg; have e2 : wd.heap.size = g := Option.some.inj e; have q2 := hz2.out; have q3 := hz3.out; omega))
          have O4 := hide o4
          rw [List.nil_append] at O4
          clear o4 on4
          refine hK1.out _ _ (HSS.out _ OF4.out.2) (fun hH => ?_)
          clear hK1
          refine wpAnyH_ready (rs := [7]) (by kernel_rfl) (by simp) (AllReadyH.cons rfl (fun K1 hK1 => ?_) AllReadyH.nil)
          refine stepAppS (by rfl) _ _ (by rfl) v4 L (by rfl) O4.out (.slice (some ⟨w0_2.heap.size, 0, none⟩) 1 1) [s] (by rfl) Y4.out (fun _ _ e => by cases e) (by have := HLn.out; simp; omega) (by have := HLn.out; unfold maxLen; simp; omega) ?_
          intro v5 w7_5 o5 on5
          show K1 (Act.put _ (some 169) _) _
          have OF5 := hide (onto_far on5 (w := w3) OF4.out.1 OF4.out.2)
          have O5 := hide o5
          clear o5 on5
          refine hK1.out _ _ (HSS.out _ OF5.out.2) (fun hH => ?_)
          clear hK1
          obtain ⟨ao9, c9, e9⟩ := O5.out.form
          rw [List.length_append, List.length_singleton] at e9
          subst e9
          have A9 := hide (A3.out.next OF5.out.2)
          have m9 := A9.out.m0
          have f9 := frozen_of_row _ _ 0 _ _ A9.out.m
          have U9 : Hid (∀ g, Value.ownBlock (.slice ao9 (L.length + 1) c9) = some g → w3.heap.size ≤ g) := OF5.out.1
          have MM := hide (MU.made JO.out O5.out OF5.out.2 U9.out)
          have ST := hide (storeM (JO.out.next OF5.out.2) A9.out MM.out HBw.out (N3.out _ (Nat.le_refl _) (by omega)) (fun e => by have := U9.out _ e; have := L3.out; omega))
          refine wpAnyH_take (i := 8) (v := .pointer (some ⟨w.heap.size, 0, none⟩)) rfl (by kernel_rfl) (by kernel_rfl) (by kernel_rfl) (fun _ _ _ h => h) (.inl ⟨by rfl, fun W _ => by go_simp⟩) hH ?_
          change wpAnyH _ _ _ _ _ _ _ (Act.put _ (some 170) _) _
          simp only [Act.put, List.setIfInBounds_toArray, List.set_cons_zero, List.set_cons_succ]
          refine wpAnyH_ready (rs := [9]) (by kernel_rfl) (by simp) (AllReadyH.cons rfl (fun K1 hK1 => ?_) AllReadyH.nil)
          go_simp
          refine hK1.out _ _ ST.out.1.a2 (fun hH => ?_)
          clear hK1
          refine wpAnyH_done (by kernel_rfl) ?_ _
          go_wp2_with fail
          go_meet
          exact ⟨_, ST.out.1, ST.out.2.1, ST.out.2.2, fun e => by have := U9.out _ e; have := L3.out; omega⟩
      · have h5 := bsS wd s
        go_simp
        have Y2 := hide (lx_one wd s)
        have C2 := hide (BD.out.alloc BD.out.size (.cells #[.string s] 9))
        refine hK1.out _ _ (HSS.out _ C2.out) (fun hH => ?_)
        clear hK1 h5
        have hz2 := hide (show (wd.alloc (.cells #[.string s] 9)).heap.size = wd.heap.size + 1 by simp)
        generalize wd.alloc (.cells #[.string s] 9) = w6_2 at *
        refine wpAnyH_ready (rs := [0]) (by kernel_rfl) (by simp) (AllReadyH.cons rfl (fun K1 hK1 => ?_) AllReadyH.nil)
        have h5 := bs0T w6_2
        go_simp
        have O0 := hide (ox_none w6_2)
        have C3 := hide (C2.out.alloc C2.out.size (.cells #[] 9))
        refine hK1.out _ _ (HSS.out _ C3.out) (fun hH => ?_)
        clear hK1 h5
        have Y3 := hide (Y2.out.below ((Below.refl _ _).alloc (Nat.le_refl _) (.cells #[] 9)))
        have g0 := hide (show w3.heap.size ≤ w6_2.heap.size from C2.out.size)
        have hz3 := hide (show (w6_2.alloc (.cells #[] 9)).heap.size = w6_2.heap.size + 1 by simp)
        generalize w6_2.alloc (.cells #[] 9) = w0_3 at *
        refine wpAnyH_ready (rs := [3]) (by kernel_rfl) (by simp) (AllReadyH.cons rfl (fun K1 hK1 => ?_) AllReadyH.nil)
        refine stepAppS (by rfl) _ _ (by rfl) (.slice (some ⟨w6_2.heap.size, 0, none⟩) 0 0) [] (by rfl) O0.out (.slice ao L.length cu) L (by rfl) (M3.out.lx.below C3.out) (fun _ _ _ => rfl) (by have := HLn.out; simp; omega) (by have := HLn.out; unfold maxLen; simp; omega) ?_
        intro v4 w3_4 o4 on4
        show K1 (Act.put _ (some 165) _) _
        have OF4 := hide (onto_far on4 (w := w3) (fun g hg => by cases hg; exact g0.out) C3.out)
        have Y4 := hide (Y3.out.onto on4 (fun g hg e => by have e1 : wd.heap.size = g := Option.some.inj hg; have e2 : w6_2.heap.size = g := Option.some.inj e; have q2 := hz2.out; have q3 := hz3.out; omega))
        have O4 := hide o4
        rw [List.nil_append] at O4
        clear o4 on4
        refine hK1.out _ _ (HSS.out _ OF4.out.2) (fun hH => ?_)
        clear hK1
        refine wpAnyH_ready (rs := [7]) (by kernel_rfl) (by simp) (AllReadyH.cons rfl (fun K1 hK1 => ?_) AllReadyH.nil)
        refine stepAppS (by rfl) _ _ (by rfl) v4 L (by rfl) O4.out (.slice (some ⟨wd.heap.size, 0, none⟩) 1 1) [s] (by rfl) Y4.out (fun _ _ e => by cases e) (by have := HLn.out; simp; omega) (by have := HLn.out; unfold maxLen; simp; omega) ?_
        intro v5 w7_5 o5 on5
        show K1 (Act.put _ (some 169) _) _
        have OF5 := hide (onto_far on5 (w := w3) OF4.out.1 OF4.out.2)
        have O5 := hide o5
        clear o5 on5
        refine hK1.out _ _ (HSS.out _ OF5.out.2) (fun hH => ?_)
        clear hK1
        obtain ⟨ao9, c9, e9⟩ := O5.out.form
        rw [List.length_append, List.length_singleton] at e9
        subst e9
        have A9 := hide (A3.out.next OF5.out.2)
        have m9 := A9.out.m0
        have f9 := frozen_of_row _ _ 0 _ _ A9.out.m
        have U9 : Hid (∀ g, Value.ownBlock (.slice ao9 (L.length + 1) c9) = some g → w3.heap.size ≤ g) := OF5.out.1
        have MM := hide (MU.made JO.out O5.out OF5.out.2 U9.out)
        have ST := hide (storeM (JO.out.next OF5.out.2) A9.out MM.out HBw.out (N3.out _ (Nat.le_refl _) (by omega)) (fun e => by have := U9.out _ e; have := L3.out; omega))
        refine wpAnyH_take (i := 8) (v := .pointer (some ⟨w.heap.size, 0, none⟩)) rfl (by kernel_rfl) (by kernel_rfl) (by kernel_rfl) (fun _ _ _ h => h) (.inl ⟨by rfl, fun W _ => by go_simp⟩) hH ?_
        change wpAnyH _ _ _ _ _ _ _ (Act.put _ (some 170) _) _
        simp only [Act.put, List.setIfInBounds_toArray, List.set_cons_zero, List.set_cons_succ]
        refine wpAnyH_ready (rs := [9]) (by kernel_rfl) (by simp) (AllReadyH.cons rfl (fun K1 hK1 => ?_) AllReadyH.nil)
        go_simp
        refine hK1.out _ _ ST.out.1.a2 (fun hH => ?_)
        clear hK1
        refine wpAnyH_done (by kernel_rfl) ?_ _
        go_wp2_with fail
        go_meet
        exact ⟨_, ST.out.1, ST.out.2.1, ST.out.2.2, fun e => by have := U9.out _ e; have := L3.out; omega⟩
    · have h5 := bsS wd s
      go_simp
      have Y1 := hide (lx_one wd s)
      have C1 := hide (BD.out.alloc BD.out.size (.cells #[.string s] 9))
      refine hK1.out _ _ (HSS.out _ C1.out) (fun hH => ?_)
      clear hK1 h5
      have hz1 := hide (show (wd.alloc (.cells #[.string s] 9)).heap.size = wd.heap.size + 1 by simp)
      generalize wd.alloc (.cells #[.string s] 9) = w6_1 at *
      refine wpAnyH_ready (rs := [0, 2]) (by kernel_rfl) (by simp) (AllReadyH.cons rfl (fun K1 hK1 => ?_) (AllReadyH.cons rfl (fun K1 hK1 => ?_) AllReadyH.nil))
      · have h5 := bs0T w6_1
        go_simp
        have O0 := hide (ox_none w6_1)
        have C2 := hide (C1.out.alloc C1.out.size (.cells #[] 9))
        refine hK1.out _ _ (HSS.out _ C2.out) (fun hH => ?_)
        clear hK1 h5
        have Y2 := hide (Y1.out.below ((Below.refl _ _).alloc (Nat.le_refl _) (.cells #[] 9)))
        have g0 := hide (show w3.heap.size ≤ w6_1.heap.size from C1.out.size)
        have hz2 := hide (show (w6_1.alloc (.cells #[] 9)).heap.size = w6_1.heap.size + 1 by simp)
        generalize w6_1.alloc (.cells #[] 9) = w0_2 at *
        refine wpAnyH_ready (rs := [2]) (by kernel_rfl) (by simp) (AllReadyH.cons rfl (fun K1 hK1 => ?_) AllReadyH.nil)
        have m2 := (A3.out.next C2.out).m0
        go_simp
        refine hK1.out _ _ (HSS.out _ C2.out) (fun hH => ?_)
        clear hK1 m2
        refine wpAnyH_ready (rs := [3]) (by kernel_rfl) (by simp) (AllReadyH.cons rfl (fun K1 hK1 => ?_) AllReadyH.nil)
        refine stepAppS (by rfl) _ _ (by rfl) (.slice (some ⟨w6_1.heap.size, 0, none⟩) 0 0) [] (by rfl) O0.out (.slice ao L.length cu) L (by rfl) (M3.out.lx.below C2.out) (fun _ _ _ => rfl) (by have := HLn.out; simp; omega) (by have := HLn.out; unfold maxLen; simp; omega) ?_
        intro v4 w3_4 o4 on4
        show K1 (Act.put _ (some 165) _) _
        have OF4 := hide (onto_far on4 (w := w3) (fun g hg => by cases hg; exact g0.out) C2.out)
        have Y4 := hide (Y2.out.onto on4 (fun g hg e => by have e1 : wd.heap.size = g := Option.some.inj hg; have e2 : w6_1.heap.size = g := Option.some.inj e; have q1 := hz1.out; have q2 := hz2.out; omega))
        have O4 := hide o4
        rw [List.nil_append] at O4
        clear o4 on4
        refine hK1.out _ _ (HSS.out _ OF4.out.2) (fun hH => ?_)
        clear hK1
        refine wpAnyH_ready (rs := [7]) (by kernel_rfl) (by simp) (AllReadyH.cons rfl (fun K1 hK1 => ?_) AllReadyH.nil)
        refine stepAppS (by rfl) _ _ (by rfl) v4 L (by rfl) O4.out (.slice (some ⟨wd.heap.size, 0, none⟩) 1 1) [s] (by rfl) Y4.out (fun _ _ e => by cases e) (by have := HLn.out; simp; omega) (by have := HLn.out; unfold maxLen; simp; omega) ?_
        intro v5 w7_5 o5 on5
        show K1 (Act.put _ (some 169) _) _
        have OF5 := hide (onto_far on5 (w := w3) OF4.out.1 OF4.out.2)
        have O5 := hide o5
        clear o5 on5
        refine hK1.out _ _ (HSS.out _ OF5.out.2) (fun hH => ?_)
        clear hK1
        obtain ⟨ao9, c9, e9⟩ := O5.out.form
        rw [List.length_append, List.length_singleton] at e9
        subst e9
        have A9 := hide (A3.out.next OF5.out.2)
        have m9 := A9.out.m0
        have f9 := frozen_of_row _ _ 0 _ _ A9.out.m
        have U9 : Hid (∀ g, Value.ownBlock (.slice ao9 (L.length + 1) c9) = some g → w3.heap.size ≤ g) := OF5.out.1
        have MM := hide (MU.made JO.out O5.out OF5.out.2 U9.out)
        have ST := hide (storeM (JO.out.next OF5.out.2) A9.out MM.out HBw.out (N3.out _ (Nat.le_refl _) (by omega)) (fun e => by have := U9.out _ e; have := L3.out; omega))
        refine wpAnyH_take (i := 8) (v := .pointer (some ⟨w.heap.size, 0, none⟩)) rfl (by kernel_rfl) (by kernel_rfl) (by kernel_rfl) (fun _ _ _ h => h) (.inl ⟨by rfl, fun W _ => by go_simp⟩) hH ?_
        change wpAnyH _ _ _ _ _ _ _ (Act.put _ (some 170) _) _
        simp only [Act.put, List.setIfInBounds_toArray, List.set_cons_zero, List.set_cons_succ]
        refine wpAnyH_ready (rs := [9]) (by kernel_rfl) (by simp) (AllReadyH.cons rfl (fun K1 hK1 => ?_) AllReadyH.nil)
        go_simp
        refine hK1.out _ _ ST.out.1.a2 (fun hH => ?_)
        clear hK1
        refine wpAnyH_done (by kernel_rfl) ?_ _
        go_wp2_with fail
        go_meet
        exact ⟨_, ST.out.1, ST.out.2.1, ST.out.2.2, fun e => by have := U9.out _ e; have := L3.out; omega⟩
      · have m2 := (A3.out.next C1.out).m0
        go_simp
        refine hK1.out _ _ (HSS.out _ C1.out) (fun hH => ?_)
        clear hK1 m2
        refine wpAnyH_ready (rs := [0]) (by kernel_rfl) (by simp) (AllReadyH.cons rfl (fun K1 hK1 => ?_) AllReadyH.nil)
        have h5 := bs0T w6_1
        go_simp
        have O0 := hide (ox_none w6_1)
        have C3 := hide (C1.out.alloc C1.out.size (.cells #[] 9))
        refine hK1.out _ _ (HSS.out _ C3.out) (fun hH => ?_)
        clear hK1 h5
        have Y3 := hide (Y1.out.below ((Below.refl _ _).alloc (Nat.le_refl _) (.cells #[] 9)))
        have g0 := hide (show w3.heap.size ≤ w6_1.heap.size from C1.out.size)
        have hz3 := hide (show (w6_1.alloc (.cells #[] 9)).heap.size = w6_1.heap.size + 1 by simp)
        generalize w6_1.alloc (.cells #[] 9) = w0_3 at *
        refine wpAnyH_ready (rs := [3]) (by kernel_rfl) (by simp) (AllReadyH.cons rfl (fun K1 hK1 => ?_) AllReadyH.nil)
        refine stepAppS (by rfl) _ _ (by rfl) (.slice (some ⟨w6_1.heap.size, 0, none⟩) 0 0) [] (by rfl) O0.out (.slice ao L.length cu) L (by rfl) (M3.out.lx.below C3.out) (fun _ _ _ => rfl) (by have := HLn.out; simp; omega) (by have := HLn.out; unfold maxLen; simp; omega) ?_
        intro v4 w3_4 o4 on4
        show K1 (Act.put _ (some 165) _) _
        have OF4 := hide (onto_far on4 (w := w3) (fun g hg => by cases hg; exact g0.out) C3.out)
        have Y4 := hide (Y3.out.onto on4 (fun g hg e => by have e1 : wd.heap.size = g := Option.some.inj hg; have e2 : w6_1.heap.size = g := Option.some.inj e; have q1 := hz1.out; have q3 := hz3.out; omega))
        have O4 := hide o4
        rw [List.nil_append] at O4
        clear o4 on4
        refine hK1.out _ _ (HSS.out _ OF4.out.2) (fun hH => ?_)
        clear hK1
        refine wpAnyH_ready (rs := [7]) (by kernel_rfl) (by simp) (AllReadyH.cons rfl (fun K1 hK1 => ?_) AllReadyH.nil)
        refine stepAppS (by rfl) _ _ (by rfl) v4 L (by rfl) O4.out (.slice (some ⟨wd.heap.size, 0, none⟩) 1 1) [s] (by rfl) Y4.out (fun _ _ e => by cases e) (by have := HLn.out; simp; omega) (by have := HLn.out; unfold maxLen; simp; omega) ?_
        intro v5 w7_5 o5 on5
        show K1 (Act.put _ (some 169) _) _
        have OF5 := hide (onto_far on5 (w := w3) OF4.out.1 OF4.out.2)
        have O5 := hide o5
        clear o5 on5
        refine hK1.out _ _ (HSS.out _ OF5.out.2) (fun hH => ?_)
        clear hK1
        obtain ⟨ao9, c9, e9⟩ := O5.out.form
        rw [List.length_append, List.length_singleton] at e9
        subst e9
        have A9 := hide (A3.out.next OF5.out.2)
        have m9 := A9.out.m0
        have f9 := frozen_of_row _ _ 0 _ _ A9.out.m
        have U9 : Hid (∀ g, Value.ownBlock (.slice ao9 (L.length + 1) c9) = some g → w3.heap.size ≤ g) := OF5.out.1
        have MM := hide (MU.made JO.out O5.out OF5.out.2 U9.out)
        have ST := hide (storeM (JO.out.next OF5.out.2) A9.out MM.out HBw.out (N3.out _ (Nat.le_refl _) (by omega)) (fun e => by have := U9.out _ e; have := L3.out; omega))
        refine wpAnyH_take (i := 8) (v := .pointer (some ⟨w.heap.size, 0, none⟩)) rfl (by kernel_rfl) (by kernel_rfl) (by kernel_rfl) (fun _ _ _ h => h) (.inl ⟨by rfl, fun W _ => by go_simp⟩) hH ?_
        change wpAnyH _ _ _ _ _ _ _ (Act.put _ (some 170) _) _
        simp only [Act.put, List.setIfInBounds_toArray, List.set_cons_zero, List.set_cons_succ]
        refine wpAnyH_ready (rs := [9]) (by kernel_rfl) (by simp) (AllReadyH.cons rfl (fun K1 hK1 => ?_) AllReadyH.nil)
        go_simp
        refine hK1.out _ _ ST.out.1.a2 (fun hH => ?_)
        clear hK1
        refine wpAnyH_done (by kernel_rfl) ?_ _
        go_wp2_with fail
        go_meet
        exact ⟨_, ST.out.1, ST.out.2.1, ST.out.2.2, fun e => by have := U9.out _ e; have := L3.out; omega⟩
  obtain ⟨u2, HX⟩ := hcut
  obtain ⟨ao2, c2, e2⟩ := HX.out.2.2.1.lx.form
  rw [List.length_append, List.length_singleton] at e2
  subst e2
  have A2 := hide HX.out.1
  clear A3 M3 HSS JO
  go_upto_region 27 with fail
  refine wp_region_held_drew (S := fun W => W.cell? ⟨w.heap.size, 0, none⟩ = some (.slice ao2 (L.length + 1) c2) ∧ W.cell? ⟨w.heap.size, 1, none⟩ = some (.int .u64 (ep : Int))) (by kernel_rfl) ⟨A2.out.m0, A2.out.m1⟩ (fun hH => ?_)
  refine wpAnyH_take (i := 0) (v := .pointer (some ⟨gj, 0, none⟩)) rfl (by kernel_rfl) (by kernel_rfl) (by kernel_rfl) (fun _ _ _ h => h) (yl_move (by rfl) _ (by rfl) _ (by rfl)) hH ?_
  change wpAnyH _ _ _ _ _ _ _ (Act.put _ (some 171) _) _
  simp only [Act.put, List.setIfInBounds_toArray, List.set_cons_zero, List.set_cons_succ]
  refine wpAnyH_take (i := 1) (v := .agg #[.slice ao2 (L.length + 1) c2, .int .u64 (ep : Int)]) rfl (by kernel_rfl) (by kernel_rfl) (by kernel_rfl) (fun _ _ _ h => h) (.inl ⟨by rfl, fun W hS => by have c4 := hS.1; have c5 := hS.2; go_simp⟩) hH ?_
  change wpAnyH _ _ _ _ _ _ _ (Act.put _ (some 172) _) _
  simp only [Act.put, List.setIfInBounds_toArray, List.set_cons_zero, List.set_cons_succ]
  refine wpAnyH_take (i := 2) (v := .int .i64 0) rfl (by kernel_rfl) (by kernel_rfl) (by kernel_rfl) (fun _ _ _ h => h) (yl_move (by rfl) _ (by rfl) _ (by rfl)) hH ?_
  change wpAnyH _ _ _ _ _ _ _ (Act.put _ (some 173) _) _
  simp only [Act.put, List.setIfInBounds_toArray, List.set_cons_zero, List.set_cons_succ]
  refine wpAnyH_take (i := 3) (v := .bool true) rfl (by kernel_rfl) (by kernel_rfl) (by kernel_rfl) (fun _ _ _ h => h) (.inl ⟨by rfl, fun W _ => by go_simp⟩) hH ?_
  change wpAnyH _ _ _ _ _ _ _ (Act.put _ (some 174) _) _
  simp only [Act.put, List.setIfInBounds_toArray, List.set_cons_zero, List.set_cons_succ]
  refine wpAnyH_take (i := 4) (v := .pointer (some ⟨gj, 0, none⟩)) rfl (by kernel_rfl) (by kernel_rfl) (by kernel_rfl) (fun _ _ _ h => h) (.inl ⟨by rfl, fun W _ => by go_simp⟩) hH ?_
  change wpAnyH _ _ _ _ _ _ _ (Act.put _ (some 8) _) _
  simp only [Act.put, List.setIfInBounds_toArray, List.set_cons_zero, List.set_cons_succ]
  have A4 := hide (A2.out.next (Below.refl wc.heap.size wc).drew)
  have J4 := hide (HX.out.2.1.next (Below.refl wc.heap.size wc).drew)
  have M4 := hide (HX.out.2.2.1.next (Below.refl wc.heap.size wc).drew)
  have N4 := hide HX.out.2.2.2
  clear A2 HX
  generalize wc.drew = W4 at *
  have q0 : W4.cell? ⟨w.heap.size + 1 + 1, 0, none⟩ = some (.slice none 0 0) := by rw [cell_of_row _ _ 0 _ _ _ A4.out.r]; rfl
  have q1 : W4.cell? ⟨w.heap.size + 1 + 1, 1, none⟩ = some (.int .u64 0) := by rw [cell_of_row _ _ 1 _ _ _ A4.out.r]; rfl
  have f0 := frozen_of_row _ _ 0 _ _ A4.out.r
  have f1 := frozen_of_row _ _ 1 _ _ A4.out.r
  refine wpAnyH_ready (rs := [5]) (by kernel_rfl) (by simp) (AllReadyH.cons rfl (fun K1 hK1 => ?_) AllReadyH.nil)
  go_simp
  have R5 := hide (st2_row (a := .slice ao2 (L.length + 1) c2) (b := .int .u64 (ep : Int)) A4.out.r)
  have M5 := hide (((st2_fr W4 (w.heap.size + 1 + 1) (.slice ao2 (L.length + 1) c2) (.int .u64 (ep : Int))).block _ (lt_heap A4.out.m) (by omega)).trans A4.out.m)
  refine hK1.out _ (st2 W4 (w.heap.size + 1 + 1) (.slice ao2 (L.length + 1) c2) (.int .u64 (ep : Int))) ⟨by rw [cell_of_row _ _ 0 _ _ _ M5.out]; rfl, by rw [cell_of_row _ _ 1 _ _ _ M5.out]; rfl⟩ (fun hH => ?_)
  clear hK1 q0 q1 f0 f1
  refine wpAnyH_take (i := 6) (v := .bool true) rfl (by kernel_rfl) (by kernel_rfl) (by kernel_rfl) (fun _ _ _ h => h) (.inl ⟨by rfl, fun W _ => by go_simp⟩) hH ?_
  change wpAnyH _ _ _ _ _ _ _ (Act.put _ (some 10) _) _
  simp only [Act.put, List.setIfInBounds_toArray, List.set_cons_zero, List.set_cons_succ]
  refine wpAnyH_done (by kernel_rfl) ?_ _
  have FIN := hide (AP.fin2 J4.out HBs.out (N3.out _ (by omega) (by omega)) M4.out N4.out DS.out _ rfl)
  clear M5
  go_wp2
  (try simp only [Exit.inBlock, Exit.then])
  refine bodyPost_ret (resM AMd rfl _ _ (w.heap.size + 1 + 1) _ _ rfl rfl R5.out _ rfl _ rfl) rfl ?_
  exact FIN.out
theorem act_add1 {ep torn c : Nat} {L : List ByteArray} {u : Value} {kind n : Int} {s : ByteArray} (h : JB K B w gj gd ⟨logN, ep, L, torn, false⟩ x T v) (hu : MU w T gj v u L) (hd : Ds x ep L c) (hc : c < 60) (hK : KB K B) (hs : s.size ≤ 70000) (hk1 : wrap64 (kind.tmod 6 + 6) = kind.tmod 6 + 6) (hk : (kind.tmod 6 + 6).tmod 6 = 1) (hl : s.size ≤ 65536) : Calls Tryz.prog 8 #[.pointer (some ⟨gj, 0, none⟩), .pointer (some ⟨gd, 0, none⟩), .agg #[u, .int .u64 (ep : Int)], .agg #[.int .i64 kind, .int .i64 n, .string s]] w fun e w' => AP K B gd c e w' := by
  obtain ⟨ao, cu, rfl⟩ := hu.lx.form
  have b0 := acW_bel w (.slice ao L.length cu) ep kind n s
  have AC := hide (acW_ac w (.slice ao L.length cu) ep kind n s)
  have H0 := hide (h.next b0)
  have H1 := hide (h.next b0).here
  have HJ := hide (js_not h)
  have HM := hide (hu.next b0)
  have HUn : Hid (∀ g, w.heap.size ≤ g → Value.ownBlock (.slice ao L.length cu) ≠ some g) := fun g hg e => by
    have := (hu.far g e).1
    omega
  have HBs : Hid (B.heap.size ≤ w.heap.size + 1 + 1) := by
    have := h.bel.size
    show _ ≤ _
    omega
  have KB1 : Hid (KB (js T gj v) (acW w (.slice ao L.length cu) ep kind n s)) := by
    have kg := hK.at_ (h.next b0).bel
    refine ⟨kg, fun c => ?_⟩
    have up : K 0 ∨ B.heap.size ≤ 0 := by
      rcases c with c | c | c
      · exact h.far _ c
      · exact c ▸ h.jfar
      · exact (h.vfar _ c).1
    rcases up with c | c
    · exact hK.2 c
    · have := hK.1.lt
      omega
  have HA := hide fun K' B' W T' (hk : KB K' B') (j : JB K' B' W gj gd ⟨logN, ep, L, torn, false⟩ x T' v) => add_ok j hk s rfl hl (by have := hd.epo; show ep < _; omega) (by have := hd.many; show L.length ≤ _; omega) hd.vd hd.plan hd.rdy (by show (x.now.at (ls logN)).length + _ ≤ _; rw [hd.at_, fileL_len]; have := hd.fl; omega) hd.some_ (by have := hd.loose; omega) (by have := hd.made; omega)
  have DS := hide (hd.add hc s hl)
  have HBs2 := hide h.bel.size
  have HLn := hide (show L.length ≤ 60 by have := hd.many; omega)
  have a2 := AC.out.a2
  have l1 : ¬ (65536 : Int) < s.size := by omega
  unfold adC at HA
  clear hl
  unfold acW at *
  clear h hu hd hc b0 hK
  go_enter Tryz.func8, Tryz.ntmps8
  go_upto_region 23 with fail
  generalize ((w.alloc (.cells #[.slice ao L.length cu, .int .u64 (ep : Int)] 33)).alloc (.cells #[.int .i64 kind, .int .i64 n, .string s] 35)).alloc (.cells #[.slice none 0 0, .int .u64 0] 33) = W0 at *
  go_upto_region 26 with (go_at_call 18; refine (HA.out _ _ _ _ KB1.out H1.out).mono ?_; rintro e w3 ⟨rfl, T3, v3, j3⟩; have J3 := hide j3; have A3 := hide (AC.out.fr j3.bel HJ.out); have a2 := (AC.out.fr j3.bel HJ.out).a2; clear j3)
  have JO := hide (H0.out.back J3.out)
  have HLr := hide (lt_heap AC.out.r)
  have N3 : Hid (∀ g, w.heap.size ≤ g → g < w.heap.size + 3 → ¬ js T3 gj v3 g) := fun g h1 h2 => js_over J3.out (by have := HLr.out; omega) (HJ.out g h1 h2)
  have M3 := hide (HM.out.over J3.out)
  have HBw : Hid (B.heap.size ≤ w.heap.size) := HBs2.out
  have L3 := hide (lt_heap A3.out.r)
  have HSS : Hid (∀ W, Below w3.heap.size w3 W → W.cell? ⟨w.heap.size + 1, 2, none⟩ = some (.string s)) := fun W b => (A3.out.next b).a2
  clear H0 H1 HM AC HA KB1 J3
  go_cut [] from 162 to 170 (fun wx => ∃ u', Hid (Ac w wx u' ep kind n s ∧ JB K B wx gj gd ⟨logN, ep, L ++ [s], torn, false⟩ (mkC x (wrC logN (x.now.at (ls logN)).length (txt (recL ep L.length s.data.toList)))) T3 v3 ∧ MU wx T3 gj v3 u' (L ++ [s]) ∧ u'.ownBlock ≠ some (w.heap.size + 1 + 1)))
  case first =>
    refine wp_region_held_drew (S := fun W => W.cell? ⟨w.heap.size + 1, 2, none⟩ = some (.string s)) (by kernel_rfl) (HSS.out _ (Below.refl _ _).drew) (fun hH => ?_)
    refine wpAnyH_take (i := 1) (v := .pointer (some ⟨w.heap.size, 0, none⟩)) rfl (by kernel_rfl) (by kernel_rfl) (by kernel_rfl) (fun _ _ _ h => h) (.inl ⟨by rfl, fun W _ => by go_simp⟩) hH ?_
    change wpAnyH _ _ _ _ _ _ _ (Act.put _ (some 163) _) _
    simp only [Act.put, List.setIfInBounds_toArray, List.set_cons_zero, List.set_cons_succ]
    refine wpAnyH_take (i := 4) (v := .pointer (some ⟨w.heap.size + 1, 2, none⟩)) rfl (by kernel_rfl) (by kernel_rfl) (by kernel_rfl) (fun _ _ _ h => h) (.inl ⟨by rfl, fun W _ => by go_simp⟩) hH ?_
    change wpAnyH _ _ _ _ _ _ _ (Act.put _ (some 166) _) _
    simp only [Act.put, List.setIfInBounds_toArray, List.set_cons_zero, List.set_cons_succ]
    refine wpAnyH_take (i := 5) (v := .string s) rfl (by kernel_rfl) (by kernel_rfl) (by kernel_rfl) (fun _ _ _ h => h) (.inl ⟨by rfl, fun W hS => by have c4 := hS; go_simp⟩) hH ?_
    change wpAnyH _ _ _ _ _ _ _ (Act.put _ (some 167) _) _
    simp only [Act.put, List.setIfInBounds_toArray, List.set_cons_zero, List.set_cons_succ]
    have BD := hide (Below.refl w3.heap.size w3).drew
    generalize w3.drew = wd at *
    refine wpAnyH_ready (rs := [0, 2, 6]) (by kernel_rfl) (by simp) (AllReadyH.cons rfl (fun K1 hK1 => ?_) (AllReadyH.cons rfl (fun K1 hK1 => ?_) (AllReadyH.cons rfl (fun K1 hK1 => ?_) AllReadyH.nil)))
    · have h5 := bs0T wd
      go_simp
      have O0 := hide (ox_none wd)
      have C1 := hide (BD.out.alloc BD.out.size (.cells #[] 9))
      refine hK1.out _ _ (HSS.out _ C1.out) (fun hH => ?_)
      clear hK1 h5
      have g0 := hide (show w3.heap.size ≤ wd.heap.size from BD.out.size)
      have hz1 := hide (show (wd.alloc (.cells #[] 9)).heap.size = wd.heap.size + 1 by simp)
      generalize wd.alloc (.cells #[] 9) = w0_1 at *
      refine wpAnyH_ready (rs := [2, 6]) (by kernel_rfl) (by simp) (AllReadyH.cons rfl (fun K1 hK1 => ?_) (AllReadyH.cons rfl (fun K1 hK1 => ?_) AllReadyH.nil))
      · have m2 := (A3.out.next C1.out).m0
        go_simp
        refine hK1.out _ _ (HSS.out _ C1.out) (fun hH => ?_)
        clear hK1 m2
        refine wpAnyH_ready (rs := [3, 6]) (by kernel_rfl) (by simp) (AllReadyH.cons rfl (fun K1 hK1 => ?_) (AllReadyH.cons rfl (fun K1 hK1 => ?_) AllReadyH.nil))
        · refine stepAppS (by rfl) _ _ (by rfl) (.slice (some ⟨wd.heap.size, 0, none⟩) 0 0) [] (by rfl) O0.out (.slice ao L.length cu) L (by rfl) (M3.out.lx.below C1.out) (fun _ _ _ => rfl) (by have := HLn.out; simp; omega) (by have := HLn.out; unfold maxLen; simp; omega) ?_
          intro v3 w3_3 o3 on3
          show K1 (Act.put _ (some 165) _) _
          have OF3 := hide (onto_far on3 (w := w3) (fun g hg => by cases hg; exact g0.out) C1.out)
          have O3 := hide o3
          rw [List.nil_append] at O3
          clear o3 on3
          refine hK1.out _ _ (HSS.out _ OF3.out.2) (fun hH => ?_)
          clear hK1
          refine wpAnyH_ready (rs := [6]) (by kernel_rfl) (by simp) (AllReadyH.cons rfl (fun K1 hK1 => ?_) AllReadyH.nil)
          have h5 := bsS w3_3 s
          go_simp
          have Y4 := hide (lx_one w3_3 s)
          have C4 := hide (OF3.out.2.alloc OF3.out.2.size (.cells #[.string s] 9))
          refine hK1.out _ _ (HSS.out _ C4.out) (fun hH => ?_)
          clear hK1 h5
          have O4 := hide (O3.out.below ((Below.refl _ _).alloc (Nat.le_refl _) (.cells #[.string s] 9)))
          have hz4 := hide (show (w3_3.alloc (.cells #[.string s] 9)).heap.size = w3_3.heap.size + 1 by simp)
          generalize w3_3.alloc (.cells #[.string s] 9) = w6_4 at *
          refine wpAnyH_ready (rs := [7]) (by kernel_rfl) (by simp) (AllReadyH.cons rfl (fun K1 hK1 => ?_) AllReadyH.nil)
          refine stepAppS (by rfl) _ _ (by rfl) v3 L (by rfl) O4.out (.slice (some ⟨w3_3.heap.size, 0, none⟩) 1 1) [s] (by rfl) Y4.out (fun _ _ e => by cases e) (by have := HLn.out; simp; omega) (by have := HLn.out; unfold maxLen; simp; omega) ?_
          intro v5 w7_5 o5 on5
          show K1 (Act.put _ (some 169) _) _
          have OF5 := hide (onto_far on5 (w := w3) OF3.out.1 C4.out)
          have O5 := hide o5
          clear o5 on5
          refine hK1.out _ _ (HSS.out _ OF5.out.2) (fun hH => ?_)
          clear hK1
          obtain ⟨ao9, c9, e9⟩ := O5.out.form
          rw [List.length_append, List.length_singleton] at e9
          subst e9
          have A9 := hide (A3.out.next OF5.out.2)
          have m9 := A9.out.m0
          have f9 := frozen_of_row _ _ 0 _ _ A9.out.m
          have U9 : Hid (∀ g, Value.ownBlock (.slice ao9 (L.length + 1) c9) = some g → w3.heap.size ≤ g) := OF5.out.1
          have MM := hide (MU.made JO.out O5.out OF5.out.2 U9.out)
          have ST := hide (storeM (JO.out.next OF5.out.2) A9.out MM.out HBw.out (N3.out _ (Nat.le_refl _) (by omega)) (fun e => by have := U9.out _ e; have := L3.out; omega))
          refine wpAnyH_take (i := 8) (v := .pointer (some ⟨w.heap.size, 0, none⟩)) rfl (by kernel_rfl) (by kernel_rfl) (by kernel_rfl) (fun _ _ _ h => h) (.inl ⟨by rfl, fun W _ => by go_simp⟩) hH ?_
          change wpAnyH _ _ _ _ _ _ _ (Act.put _ (some 170) _) _
          simp only [Act.put, List.setIfInBounds_toArray, List.set_cons_zero, List.set_cons_succ]
          refine wpAnyH_ready (rs := [9]) (by kernel_rfl) (by simp) (AllReadyH.cons rfl (fun K1 hK1 => ?_) AllReadyH.nil)
          go_simp
          refine hK1.out _ _ ST.out.1.a2 (fun hH => ?_)
          clear hK1
          refine wpAnyH_done (by kernel_rfl) ?_ _
          go_wp2_with fail
          go_meet
          exact ⟨_, ST.out.1, ST.out.2.1, ST.out.2.2, fun e => by have := U9.out _ e; have := L3.out; omega⟩
        · have h5 := bsS w0_1 s
          go_simp
          have Y3 := hide (lx_one w0_1 s)
          have C3 := hide (C1.out.alloc C1.out.size (.cells #[.string s] 9))
          refine hK1.out _ _ (HSS.out _ C3.out) (fun hH => ?_)
          clear hK1 h5
          have O3 := hide (O0.out.below ((Below.refl _ _).alloc (Nat.le_refl _) (.cells #[.string s] 9)))
          have hz3 := hide (show (w0_1.alloc (.cells #[.string s] 9)).heap.size = w0_1.heap.size + 1 by simp)
          generalize w0_1.alloc (.cells #[.string s] 9) = w6_3 at *
          refine wpAnyH_ready (rs := [3]) (by kernel_rfl) (by simp) (AllReadyH.cons rfl (fun K1 hK1 => ?_) AllReadyH.nil)
          refine stepAppS (by rfl) _ _ (by rfl) (.slice (some ⟨wd.heap.size, 0, none⟩) 0 0) [] (by rfl) O3.out (.slice ao L.length cu) L (by rfl) (M3.out.lx.below C3.out) (fun _ _ _ => rfl) (by have := HLn.out; simp; omega) (by have := HLn.out; unfold maxLen; simp; omega) ?_
          intro v4 w3_4 o4 on4
          show K1 (Act.put _ (some 165) _) _
          have OF4 := hide (onto_far on4 (w := w3) (fun g hg => by cases hg; exact g0.out) C3.out)
          have Y4 := hide (Y3.out.onto on4 (fun g hg e => by have e1 : w0_1.heap.size = g := Option.some.inj hg; have e2 : wd.heap.size = g := Option.some.inj e; have q1 := hz1.out; have q3 := hz3.out; omega))
          have O4 := hide o4
          rw [List.nil_append] at O4
          clear o4 on4
          refine hK1.out _ _ (HSS.out _ OF4.out.2) (fun hH => ?_)
          clear hK1
          refine wpAnyH_ready (rs := [7]) (by kernel_rfl) (by simp) (AllReadyH.cons rfl (fun K1 hK1 => ?_) AllReadyH.nil)
          refine stepAppS (by rfl) _ _ (by rfl) v4 L (by rfl) O4.out (.slice (some ⟨w0_1.heap.size, 0, none⟩) 1 1) [s] (by rfl) Y4.out (fun _ _ e => by cases e) (by have := HLn.out; simp; omega) (by have := HLn.out; unfold maxLen; simp; omega) ?_
          intro v5 w7_5 o5 on5
          show K1 (Act.put _ (some 169) _) _
          have OF5 := hide (onto_far on5 (w := w3) OF4.out.1 OF4.out.2)
          have O5 := hide o5
          clear o5 on5
          refine hK1.out _ _ (HSS.out _ OF5.out.2) (fun hH => ?_)
          clear hK1
          obtain ⟨ao9, c9, e9⟩ := O5.out.form
          rw [List.length_append, List.length_singleton] at e9
          subst e9
          have A9 := hide (A3.out.next OF5.out.2)
          have m9 := A9.out.m0
          have f9 := frozen_of_row _ _ 0 _ _ A9.out.m
          have U9 : Hid (∀ g, Value.ownBlock (.slice ao9 (L.length + 1) c9) = some g → w3.heap.size ≤ g) := OF5.out.1
          have MM := hide (MU.made JO.out O5.out OF5.out.2 U9.out)
          have ST := hide (storeM (JO.out.next OF5.out.2) A9.out MM.out HBw.out (N3.out _ (Nat.le_refl _) (by omega)) (fun e => by have := U9.out _ e; have := L3.out; omega))
          refine wpAnyH_take (i := 8) (v := .pointer (some ⟨w.heap.size, 0, none⟩)) rfl (by kernel_rfl) (by kernel_rfl) (by kernel_rfl) (fun _ _ _ h => h) (.inl ⟨by rfl, fun W _ => by go_simp⟩) hH ?_
          change wpAnyH _ _ _ _ _ _ _ (Act.put _ (some 170) _) _
          simp only [Act.put, List.setIfInBounds_toArray, List.set_cons_zero, List.set_cons_succ]
          refine wpAnyH_ready (rs := [9]) (by kernel_rfl) (by simp) (AllReadyH.cons rfl (fun K1 hK1 => ?_) AllReadyH.nil)
          go_simp
          refine hK1.out _ _ ST.out.1.a2 (fun hH => ?_)
          clear hK1
          refine wpAnyH_done (by kernel_rfl) ?_ _
          go_wp2_with fail
          go_meet
          exact ⟨_, ST.out.1, ST.out.2.1, ST.out.2.2, fun e => by have := U9.out _ e; have := L3.out; omega⟩
      · have h5 := bsS w0_1 s
        go_simp
        have Y2 := hide (lx_one w0_1 s)
        have C2 := hide (C1.out.alloc C1.out.size (.cells #[.string s] 9))
        refine hK1.out _ _ (HSS.out _ C2.out) (fun hH => ?_)
        clear hK1 h5
        have O2 := hide (O0.out.below ((Below.refl _ _).alloc (Nat.le_refl _) (.cells #[.string s] 9)))
        have hz2 := hide (show (w0_1.alloc (.cells #[.string s] 9)).heap.size = w0_1.heap.size + 1 by simp)
        generalize w0_1.alloc (.cells #[.string s] 9) = w6_2 at *
        refine wpAnyH_ready (rs := [2]) (by kernel_rfl) (by simp) (AllReadyH.cons rfl (fun K1 hK1 => ?_) AllReadyH.nil)
        have m2 := (A3.out.next C2.out).m0
        go_simp
        refine hK1.out _ _ (HSS.out _ C2.out) (fun hH => ?_)
        clear hK1 m2
        refine wpAnyH_ready (rs := [3]) (by kernel_rfl) (by simp) (AllReadyH.cons rfl (fun K1 hK1 => ?_) AllReadyH.nil)
        refine stepAppS (by rfl) _ _ (by rfl) (.slice (some ⟨wd.heap.size, 0, none⟩) 0 0) [] (by rfl) O2.out (.slice ao L.length cu) L (by rfl) (M3.out.lx.below C2.out) (fun _ _ _ => rfl) (by have := HLn.out; simp; omega) (by have := HLn.out; unfold maxLen; simp; omega) ?_
        intro v4 w3_4 o4 on4
        show K1 (Act.put _ (some 165) _) _
        have OF4 := hide (onto_far on4 (w := w3) (fun g hg => by cases hg; exact g0.out) C2.out)
        have Y4 := hide (Y2.out.onto on4 (fun g hg e => by have e1 : w0_1.heap.size = g := Option.some.inj hg; have e2 : wd.heap.size = g := Option.some.inj e; have q1 := hz1.out; have q2 := hz2.out; omega))
        have O4 := hide o4
        rw [List.nil_append] at O4
        clear o4 on4
        refine hK1.out _ _ (HSS.out _ OF4.out.2) (fun hH => ?_)
        clear hK1
        refine wpAnyH_ready (rs := [7]) (by kernel_rfl) (by simp) (AllReadyH.cons rfl (fun K1 hK1 => ?_) AllReadyH.nil)
        refine stepAppS (by rfl) _ _ (by rfl) v4 L (by rfl) O4.out (.slice (some ⟨w0_1.heap.size, 0, none⟩) 1 1) [s] (by rfl) Y4.out (fun _ _ e => by cases e) (by have := HLn.out; simp; omega) (by have := HLn.out; unfold maxLen; simp; omega) ?_
        intro v5 w7_5 o5 on5
        show K1 (Act.put _ (some 169) _) _
        have OF5 := hide (onto_far on5 (w := w3) OF4.out.1 OF4.out.2)
        have O5 := hide o5
        clear o5 on5
        refine hK1.out _ _ (HSS.out _ OF5.out.2) (fun hH => ?_)
        clear hK1
        obtain ⟨ao9, c9, e9⟩ := O5.out.form
        rw [List.length_append, List.length_singleton] at e9
        subst e9
        have A9 := hide (A3.out.next OF5.out.2)
        have m9 := A9.out.m0
        have f9 := frozen_of_row _ _ 0 _ _ A9.out.m
        have U9 : Hid (∀ g, Value.ownBlock (.slice ao9 (L.length + 1) c9) = some g → w3.heap.size ≤ g) := OF5.out.1
        have MM := hide (MU.made JO.out O5.out OF5.out.2 U9.out)
        have ST := hide (storeM (JO.out.next OF5.out.2) A9.out MM.out HBw.out (N3.out _ (Nat.le_refl _) (by omega)) (fun e => by have := U9.out _ e; have := L3.out; omega))
        refine wpAnyH_take (i := 8) (v := .pointer (some ⟨w.heap.size, 0, none⟩)) rfl (by kernel_rfl) (by kernel_rfl) (by kernel_rfl) (fun _ _ _ h => h) (.inl ⟨by rfl, fun W _ => by go_simp⟩) hH ?_
        change wpAnyH _ _ _ _ _ _ _ (Act.put _ (some 170) _) _
        simp only [Act.put, List.setIfInBounds_toArray, List.set_cons_zero, List.set_cons_succ]
        refine wpAnyH_ready (rs := [9]) (by kernel_rfl) (by simp) (AllReadyH.cons rfl (fun K1 hK1 => ?_) AllReadyH.nil)
        go_simp
        refine hK1.out _ _ ST.out.1.a2 (fun hH => ?_)
        clear hK1
        refine wpAnyH_done (by kernel_rfl) ?_ _
        go_wp2_with fail
        go_meet
        exact ⟨_, ST.out.1, ST.out.2.1, ST.out.2.2, fun e => by have := U9.out _ e; have := L3.out; omega⟩
    · have m2 := (A3.out.next BD.out).m0
      go_simp
      refine hK1.out _ _ (HSS.out _ BD.out) (fun hH => ?_)
      clear hK1 m2
      refine wpAnyH_ready (rs := [0, 6]) (by kernel_rfl) (by simp) (AllReadyH.cons rfl (fun K1 hK1 => ?_) (AllReadyH.cons rfl (fun K1 hK1 => ?_) AllReadyH.nil))
      · have h5 := bs0T wd
        go_simp
        have O0 := hide (ox_none wd)
        have C2 := hide (BD.out.alloc BD.out.size (.cells #[] 9))
        refine hK1.out _ _ (HSS.out _ C2.out) (fun hH => ?_)
        clear hK1 h5
        have g0 := hide (show w3.heap.size ≤ wd.heap.size from BD.out.size)
        have hz2 := hide (show (wd.alloc (.cells #[] 9)).heap.size = wd.heap.size + 1 by simp)
        generalize wd.alloc (.cells #[] 9) = w0_2 at *
        refine wpAnyH_ready (rs := [3, 6]) (by kernel_rfl) (by simp) (AllReadyH.cons rfl (fun K1 hK1 => ?_) (AllReadyH.cons rfl (fun K1 hK1 => ?_) AllReadyH.nil))
        · refine stepAppS (by rfl) _ _ (by rfl) (.slice (some ⟨wd.heap.size, 0, none⟩) 0 0) [] (by rfl) O0.out (.slice ao L.length cu) L (by rfl) (M3.out.lx.below C2.out) (fun _ _ _ => rfl) (by have := HLn.out; simp; omega) (by have := HLn.out; unfold maxLen; simp; omega) ?_
          intro v3 w3_3 o3 on3
          show K1 (Act.put _ (some 165) _) _
          have OF3 := hide (onto_far on3 (w := w3) (fun g hg => by cases hg; exact g0.out) C2.out)
          have O3 := hide o3
          rw [List.nil_append] at O3
          clear o3 on3
          refine hK1.out _ _ (HSS.out _ OF3.out.2) (fun hH => ?_)
          clear hK1
          refine wpAnyH_ready (rs := [6]) (by kernel_rfl) (by simp) (AllReadyH.cons rfl (fun K1 hK1 => ?_) AllReadyH.nil)
          have h5 := bsS w3_3 s
          go_simp
          have Y4 := hide (lx_one w3_3 s)
          have C4 := hide (OF3.out.2.alloc OF3.out.2.size (.cells #[.string s] 9))
          refine hK1.out _ _ (HSS.out _ C4.out) (fun hH => ?_)
          clear hK1 h5
          have O4 := hide (O3.out.below ((Below.refl _ _).alloc (Nat.le_refl _) (.cells #[.string s] 9)))
          have hz4 := hide (show (w3_3.alloc (.cells #[.string s] 9)).heap.size = w3_3.heap.size + 1 by simp)
          generalize w3_3.alloc (.cells #[.string s] 9) = w6_4 at *
          refine wpAnyH_ready (rs := [7]) (by kernel_rfl) (by simp) (AllReadyH.cons rfl (fun K1 hK1 => ?_) AllReadyH.nil)
          refine stepAppS (by rfl) _ _ (by rfl) v3 L (by rfl) O4.out (.slice (some ⟨w3_3.heap.size, 0, none⟩) 1 1) [s] (by rfl) Y4.out (fun _ _ e => by cases e) (by have := HLn.out; simp; omega) (by have := HLn.out; unfold maxLen; simp; omega) ?_
          intro v5 w7_5 o5 on5
          show K1 (Act.put _ (some 169) _) _
          have OF5 := hide (onto_far on5 (w := w3) OF3.out.1 C4.out)
          have O5 := hide o5
          clear o5 on5
          refine hK1.out _ _ (HSS.out _ OF5.out.2) (fun hH => ?_)
          clear hK1
          obtain ⟨ao9, c9, e9⟩ := O5.out.form
          rw [List.length_append, List.length_singleton] at e9
          subst e9
          have A9 := hide (A3.out.next OF5.out.2)
          have m9 := A9.out.m0
          have f9 := frozen_of_row _ _ 0 _ _ A9.out.m
          have U9 : Hid (∀ g, Value.ownBlock (.slice ao9 (L.length + 1) c9) = some g → w3.heap.size ≤ g) := OF5.out.1
          have MM := hide (MU.made JO.out O5.out OF5.out.2 U9.out)
          have ST := hide (storeM (JO.out.next OF5.out.2) A9.out MM.out HBw.out (N3.out _ (Nat.le_refl _) (by omega)) (fun e => by have := U9.out _ e; have := L3.out; omega))
          refine wpAnyH_take (i := 8) (v := .pointer (some ⟨w.heap.size, 0, none⟩)) rfl (by kernel_rfl) (by kernel_rfl) (by kernel_rfl) (fun _ _ _ h => h) (.inl ⟨by rfl, fun W _ => by go_simp⟩) hH ?_
          change wpAnyH _ _ _ _ _ _ _ (Act.put _ (some 170) _) _
          simp only [Act.put, List.setIfInBounds_toArray, List.set_cons_zero, List.set_cons_succ]
          refine wpAnyH_ready (rs := [9]) (by kernel_rfl) (by simp) (AllReadyH.cons rfl (fun K1 hK1 => ?_) AllReadyH.nil)
          go_simp
          refine hK1.out _ _ ST.out.1.a2 (fun hH => ?_)
          clear hK1
          refine wpAnyH_done (by kernel_rfl) ?_ _
          go_wp2_with fail
          go_meet
          exact ⟨_, ST.out.1, ST.out.2.1, ST.out.2.2, fun e => by have := U9.out _ e; have := L3.out; omega⟩
        · have h5 := bsS w0_2 s
          go_simp
          have Y3 := hide (lx_one w0_2 s)
          have C3 := hide (C2.out.alloc C2.out.size (.cells #[.string s] 9))
          refine hK1.out _ _ (HSS.out _ C3.out) (fun hH => ?_)
          clear hK1 h5
          have O3 := hide (O0.out.below ((Below.refl _ _).alloc (Nat.le_refl _) (.cells #[.string s] 9)))
          have hz3 := hide (show (w0_2.alloc (.cells #[.string s] 9)).heap.size = w0_2.heap.size + 1 by simp)
          generalize w0_2.alloc (.cells #[.string s] 9) = w6_3 at *
          refine wpAnyH_ready (rs := [3]) (by kernel_rfl) (by simp) (AllReadyH.cons rfl (fun K1 hK1 => ?_) AllReadyH.nil)
          refine stepAppS (by rfl) _ _ (by rfl) (.slice (some ⟨wd.heap.size, 0, none⟩) 0 0) [] (by rfl) O3.out (.slice ao L.length cu) L (by rfl) (M3.out.lx.below C3.out) (fun _ _ _ => rfl) (by have := HLn.out; simp; omega) (by have := HLn.out; unfold maxLen; simp; omega) ?_
          intro v4 w3_4 o4 on4
          show K1 (Act.put _ (some 165) _) _
          have OF4 := hide (onto_far on4 (w := w3) (fun g hg => by cases hg; exact g0.out) C3.out)
          have Y4 := hide (Y3.out.onto on4 (fun g hg e => by have e1 : w0_2.heap.size = g := Option.some.inj hg; have e2 : wd.heap.size = g := Option.some.inj e; have q2 := hz2.out; have q3 := hz3.out; omega))
          have O4 := hide o4
          rw [List.nil_append] at O4
          clear o4 on4
          refine hK1.out _ _ (HSS.out _ OF4.out.2) (fun hH => ?_)
          clear hK1
          refine wpAnyH_ready (rs := [7]) (by kernel_rfl) (by simp) (AllReadyH.cons rfl (fun K1 hK1 => ?_) AllReadyH.nil)
          refine stepAppS (by rfl) _ _ (by rfl) v4 L (by rfl) O4.out (.slice (some ⟨w0_2.heap.size, 0, none⟩) 1 1) [s] (by rfl) Y4.out (fun _ _ e => by cases e) (by have := HLn.out; simp; omega) (by have := HLn.out; unfold maxLen; simp; omega) ?_
          intro v5 w7_5 o5 on5
          show K1 (Act.put _ (some 169) _) _
          have OF5 := hide (onto_far on5 (w := w3) OF4.out.1 OF4.out.2)
          have O5 := hide o5
          clear o5 on5
          refine hK1.out _ _ (HSS.out _ OF5.out.2) (fun hH => ?_)
          clear hK1
          obtain ⟨ao9, c9, e9⟩ := O5.out.form
          rw [List.length_append, List.length_singleton] at e9
          subst e9
          have A9 := hide (A3.out.next OF5.out.2)
          have m9 := A9.out.m0
          have f9 := frozen_of_row _ _ 0 _ _ A9.out.m
          have U9 : Hid (∀ g, Value.ownBlock (.slice ao9 (L.length + 1) c9) = some g → w3.heap.size ≤ g) := OF5.out.1
          have MM := hide (MU.made JO.out O5.out OF5.out.2 U9.out)
          have ST := hide (storeM (JO.out.next OF5.out.2) A9.out MM.out HBw.out (N3.out _ (Nat.le_refl _) (by omega)) (fun e => by have := U9.out _ e; have := L3.out; omega))
          refine wpAnyH_take (i := 8) (v := .pointer (some ⟨w.heap.size, 0, none⟩)) rfl (by kernel_rfl) (by kernel_rfl) (by kernel_rfl) (fun _ _ _ h => h) (.inl ⟨by rfl, fun W _ => by go_simp⟩) hH ?_
          change wpAnyH _ _ _ _ _ _ _ (Act.put _ (some 170) _) _
          simp only [Act.put, List.setIfInBounds_toArray, List.set_cons_zero, List.set_cons_succ]
          refine wpAnyH_ready (rs := [9]) (by kernel_rfl) (by simp) (AllReadyH.cons rfl (fun K1 hK1 => ?_) AllReadyH.nil)
          go_simp
          refine hK1.out _ _ ST.out.1.a2 (fun hH => ?_)
          clear hK1
          refine wpAnyH_done (by kernel_rfl) ?_ _
          go_wp2_with fail
          go_meet
          exact ⟨_, ST.out.1, ST.out.2.1, ST.out.2.2, fun e => by have := U9.out _ e; have := L3.out; omega⟩
      · have h5 := bsS wd s
        go_simp
        have Y2 := hide (lx_one wd s)
        have C2 := hide (BD.out.alloc BD.out.size (.cells #[.string s] 9))
        refine hK1.out _ _ (HSS.out _ C2.out) (fun hH => ?_)
        clear hK1 h5
        have hz2 := hide (show (wd.alloc (.cells #[.string s] 9)).heap.size = wd.heap.size + 1 by simp)
        generalize wd.alloc (.cells #[.string s] 9) = w6_2 at *
        refine wpAnyH_ready (rs := [0]) (by kernel_rfl) (by simp) (AllReadyH.cons rfl (fun K1 hK1 => ?_) AllReadyH.nil)
        have h5 := bs0T w6_2
        go_simp
        have O0 := hide (ox_none w6_2)
        have C3 := hide (C2.out.alloc C2.out.size (.cells #[] 9))
        refine hK1.out _ _ (HSS.out _ C3.out) (fun hH => ?_)
        clear hK1 h5
        have Y3 := hide (Y2.out.below ((Below.refl _ _).alloc (Nat.le_refl _) (.cells #[] 9)))
        have g0 := hide (show w3.heap.size ≤ w6_2.heap.size from C2.out.size)
        have hz3 := hide (show (w6_2.alloc (.cells #[] 9)).heap.size = w6_2.heap.size + 1 by simp)
        generalize w6_2.alloc (.cells #[] 9) = w0_3 at *
        refine wpAnyH_ready (rs := [3]) (by kernel_rfl) (by simp) (AllReadyH.cons rfl (fun K1 hK1 => ?_) AllReadyH.nil)
        refine stepAppS (by rfl) _ _ (by rfl) (.slice (some ⟨w6_2.heap.size, 0, none⟩) 0 0) [] (by rfl) O0.out (.slice ao L.length cu) L (by rfl) (M3.out.lx.below C3.out) (fun _ _ _ => rfl) (by have := HLn.out; simp; omega) (by have := HLn.out; unfold maxLen; simp; omega) ?_
        intro v4 w3_4 o4 on4
        show K1 (Act.put _ (some 165) _) _
        have OF4 := hide (onto_far on4 (w := w3) (fun g hg => by cases hg; exact g0.out) C3.out)
        have Y4 := hide (Y3.out.onto on4 (fun g hg e => by have e1 : wd.heap.size = g := Option.some.inj hg; have e2 : w6_2.heap.size = g := Option.some.inj e; have q2 := hz2.out; have q3 := hz3.out; omega))
        have O4 := hide o4
        rw [List.nil_append] at O4
        clear o4 on4
        refine hK1.out _ _ (HSS.out _ OF4.out.2) (fun hH => ?_)
        clear hK1
        refine wpAnyH_ready (rs := [7]) (by kernel_rfl) (by simp) (AllReadyH.cons rfl (fun K1 hK1 => ?_) AllReadyH.nil)
        refine stepAppS (by rfl) _ _ (by rfl) v4 L (by rfl) O4.out (.slice (some ⟨wd.heap.size, 0, none⟩) 1 1) [s] (by rfl) Y4.out (fun _ _ e => by cases e) (by have := HLn.out; simp; omega) (by have := HLn.out; unfold maxLen; simp; omega) ?_
        intro v5 w7_5 o5 on5
        show K1 (Act.put _ (some 169) _) _
        have OF5 := hide (onto_far on5 (w := w3) OF4.out.1 OF4.out.2)
        have O5 := hide o5
        clear o5 on5
        refine hK1.out _ _ (HSS.out _ OF5.out.2) (fun hH => ?_)
        clear hK1
        obtain ⟨ao9, c9, e9⟩ := O5.out.form
        rw [List.length_append, List.length_singleton] at e9
        subst e9
        have A9 := hide (A3.out.next OF5.out.2)
        have m9 := A9.out.m0
        have f9 := frozen_of_row _ _ 0 _ _ A9.out.m
        have U9 : Hid (∀ g, Value.ownBlock (.slice ao9 (L.length + 1) c9) = some g → w3.heap.size ≤ g) := OF5.out.1
        have MM := hide (MU.made JO.out O5.out OF5.out.2 U9.out)
        have ST := hide (storeM (JO.out.next OF5.out.2) A9.out MM.out HBw.out (N3.out _ (Nat.le_refl _) (by omega)) (fun e => by have := U9.out _ e; have := L3.out; omega))
        refine wpAnyH_take (i := 8) (v := .pointer (some ⟨w.heap.size, 0, none⟩)) rfl (by kernel_rfl) (by kernel_rfl) (by kernel_rfl) (fun _ _ _ h => h) (.inl ⟨by rfl, fun W _ => by go_simp⟩) hH ?_
        change wpAnyH _ _ _ _ _ _ _ (Act.put _ (some 170) _) _
        simp only [Act.put, List.setIfInBounds_toArray, List.set_cons_zero, List.set_cons_succ]
        refine wpAnyH_ready (rs := [9]) (by kernel_rfl) (by simp) (AllReadyH.cons rfl (fun K1 hK1 => ?_) AllReadyH.nil)
        go_simp
        refine hK1.out _ _ ST.out.1.a2 (fun hH => ?_)
        clear hK1
        refine wpAnyH_done (by kernel_rfl) ?_ _
        go_wp2_with fail
        go_meet
        exact ⟨_, ST.out.1, ST.out.2.1, ST.out.2.2, fun e => by have := U9.out _ e; have := L3.out; omega⟩
    · have h5 := bsS wd s
      go_simp
      have Y1 := hide (lx_one wd s)
      have C1 := hide (BD.out.alloc BD.out.size (.cells #[.string s] 9))
      refine hK1.out _ _ (HSS.out _ C1.out) (fun hH => ?_)
      clear hK1 h5
      have hz1 := hide (show (wd.alloc (.cells #[.string s] 9)).heap.size = wd.heap.size + 1 by simp)
      generalize wd.alloc (.cells #[.string s] 9) = w6_1 at *
      refine wpAnyH_ready (rs := [0, 2]) (by kernel_rfl) (by simp) (AllReadyH.cons rfl (fun K1 hK1 => ?_) (AllReadyH.cons rfl (fun K1 hK1 => ?_) AllReadyH.nil))
      · have h5 := bs0T w6_1
        go_simp
        have O0 := hide (ox_none w6_1)
        have C2 := hide (C1.out.alloc C1.out.size (.cells #[] 9))
        refine hK1.out _ _ (HSS.out _ C2.out) (fun hH => ?_)
        clear hK1 h5
        have Y2 := hide (Y1.out.below ((Below.refl _ _).alloc (Nat.le_refl _) (.cells #[] 9)))
        have g0 := hide (show w3.heap.size ≤ w6_1.heap.size from C1.out.size)
        have hz2 := hide (show (w6_1.alloc (.cells #[] 9)).heap.size = w6_1.heap.size + 1 by simp)
        generalize w6_1.alloc (.cells #[] 9) = w0_2 at *
        refine wpAnyH_ready (rs := [2]) (by kernel_rfl) (by simp) (AllReadyH.cons rfl (fun K1 hK1 => ?_) AllReadyH.nil)
        have m2 := (A3.out.next C2.out).m0
        go_simp
        refine hK1.out _ _ (HSS.out _ C2.out) (fun hH => ?_)
        clear hK1 m2
        refine wpAnyH_ready (rs := [3]) (by kernel_rfl) (by simp) (AllReadyH.cons rfl (fun K1 hK1 => ?_) AllReadyH.nil)
        refine stepAppS (by rfl) _ _ (by rfl) (.slice (some ⟨w6_1.heap.size, 0, none⟩) 0 0) [] (by rfl) O0.out (.slice ao L.length cu) L (by rfl) (M3.out.lx.below C2.out) (fun _ _ _ => rfl) (by have := HLn.out; simp; omega) (by have := HLn.out; unfold maxLen; simp; omega) ?_
        intro v4 w3_4 o4 on4
        show K1 (Act.put _ (some 165) _) _
        have OF4 := hide (onto_far on4 (w := w3) (fun g hg => by cases hg; exact g0.out) C2.out)
        have Y4 := hide (Y2.out.onto on4 (fun g hg e => by have e1 : wd.heap.size = g := Option.some.inj hg; have e2 : w6_1.heap.size = g := Option.some.inj e; have q1 := hz1.out; have q2 := hz2.out; omega))
        have O4 := hide o4
        rw [List.nil_append] at O4
        clear o4 on4
        refine hK1.out _ _ (HSS.out _ OF4.out.2) (fun hH => ?_)
        clear hK1
        refine wpAnyH_ready (rs := [7]) (by kernel_rfl) (by simp) (AllReadyH.cons rfl (fun K1 hK1 => ?_) AllReadyH.nil)
        refine stepAppS (by rfl) _ _ (by rfl) v4 L (by rfl) O4.out (.slice (some ⟨wd.heap.size, 0, none⟩) 1 1) [s] (by rfl) Y4.out (fun _ _ e => by cases e) (by have := HLn.out; simp; omega) (by have := HLn.out; unfold maxLen; simp; omega) ?_
        intro v5 w7_5 o5 on5
        show K1 (Act.put _ (some 169) _) _
        have OF5 := hide (onto_far on5 (w := w3) OF4.out.1 OF4.out.2)
        have O5 := hide o5
        clear o5 on5
        refine hK1.out _ _ (HSS.out _ OF5.out.2) (fun hH => ?_)
        clear hK1
        obtain ⟨ao9, c9, e9⟩ := O5.out.form
        rw [List.length_append, List.length_singleton] at e9
        subst e9
        have A9 := hide (A3.out.next OF5.out.2)
        have m9 := A9.out.m0
        have f9 := frozen_of_row _ _ 0 _ _ A9.out.m
        have U9 : Hid (∀ g, Value.ownBlock (.slice ao9 (L.length + 1) c9) = some g → w3.heap.size ≤ g) := OF5.out.1
        have MM := hide (MU.made JO.out O5.out OF5.out.2 U9.out)
        have ST := hide (storeM (JO.out.next OF5.out.2) A9.out MM.out HBw.out (N3.out _ (Nat.le_refl _) (by omega)) (fun e => by have := U9.out _ e; have := L3.out; omega))
        refine wpAnyH_take (i := 8) (v := .pointer (some ⟨w.heap.size, 0, none⟩)) rfl (by kernel_rfl) (by kernel_rfl) (by kernel_rfl) (fun _ _ _ h => h) (.inl ⟨by rfl, fun W _ => by go_simp⟩) hH ?_
        change wpAnyH _ _ _ _ _ _ _ (Act.put _ (some 170) _) _
        simp only [Act.put, List.setIfInBounds_toArray, List.set_cons_zero, List.set_cons_succ]
        refine wpAnyH_ready (rs := [9]) (by kernel_rfl) (by simp) (AllReadyH.cons rfl (fun K1 hK1 => ?_) AllReadyH.nil)
        go_simp
        refine hK1.out _ _ ST.out.1.a2 (fun hH => ?_)
        clear hK1
        refine wpAnyH_done (by kernel_rfl) ?_ _
        go_wp2_with fail
        go_meet
        exact ⟨_, ST.out.1, ST.out.2.1, ST.out.2.2, fun e => by have := U9.out _ e; have := L3.out; omega⟩
      · have m2 := (A3.out.next C1.out).m0
        go_simp
        refine hK1.out _ _ (HSS.out _ C1.out) (fun hH => ?_)
        clear hK1 m2
        refine wpAnyH_ready (rs := [0]) (by kernel_rfl) (by simp) (AllReadyH.cons rfl (fun K1 hK1 => ?_) AllReadyH.nil)
        have h5 := bs0T w6_1
        go_simp
        have O0 := hide (ox_none w6_1)
        have C3 := hide (C1.out.alloc C1.out.size (.cells #[] 9))
        refine hK1.out _ _ (HSS.out _ C3.out) (fun hH => ?_)
        clear hK1 h5
        have Y3 := hide (Y1.out.below ((Below.refl _ _).alloc (Nat.le_refl _) (.cells #[] 9)))
        have g0 := hide (show w3.heap.size ≤ w6_1.heap.size from C1.out.size)
        have hz3 := hide (show (w6_1.alloc (.cells #[] 9)).heap.size = w6_1.heap.size + 1 by simp)
        generalize w6_1.alloc (.cells #[] 9) = w0_3 at *
        refine wpAnyH_ready (rs := [3]) (by kernel_rfl) (by simp) (AllReadyH.cons rfl (fun K1 hK1 => ?_) AllReadyH.nil)
        refine stepAppS (by rfl) _ _ (by rfl) (.slice (some ⟨w6_1.heap.size, 0, none⟩) 0 0) [] (by rfl) O0.out (.slice ao L.length cu) L (by rfl) (M3.out.lx.below C3.out) (fun _ _ _ => rfl) (by have := HLn.out; simp; omega) (by have := HLn.out; unfold maxLen; simp; omega) ?_
        intro v4 w3_4 o4 on4
        show K1 (Act.put _ (some 165) _) _
        have OF4 := hide (onto_far on4 (w := w3) (fun g hg => by cases hg; exact g0.out) C3.out)
        have Y4 := hide (Y3.out.onto on4 (fun g hg e => by have e1 : wd.heap.size = g := Option.some.inj hg; have e2 : w6_1.heap.size = g := Option.some.inj e; have q1 := hz1.out; have q3 := hz3.out; omega))
        have O4 := hide o4
        rw [List.nil_append] at O4
        clear o4 on4
        refine hK1.out _ _ (HSS.out _ OF4.out.2) (fun hH => ?_)
        clear hK1
        refine wpAnyH_ready (rs := [7]) (by kernel_rfl) (by simp) (AllReadyH.cons rfl (fun K1 hK1 => ?_) AllReadyH.nil)
        refine stepAppS (by rfl) _ _ (by rfl) v4 L (by rfl) O4.out (.slice (some ⟨wd.heap.size, 0, none⟩) 1 1) [s] (by rfl) Y4.out (fun _ _ e => by cases e) (by have := HLn.out; simp; omega) (by have := HLn.out; unfold maxLen; simp; omega) ?_
        intro v5 w7_5 o5 on5
        show K1 (Act.put _ (some 169) _) _
        have OF5 := hide (onto_far on5 (w := w3) OF4.out.1 OF4.out.2)
        have O5 := hide o5
        clear o5 on5
        refine hK1.out _ _ (HSS.out _ OF5.out.2) (fun hH => ?_)
        clear hK1
        obtain ⟨ao9, c9, e9⟩ := O5.out.form
        rw [List.length_append, List.length_singleton] at e9
        subst e9
        have A9 := hide (A3.out.next OF5.out.2)
        have m9 := A9.out.m0
        have f9 := frozen_of_row _ _ 0 _ _ A9.out.m
        have U9 : Hid (∀ g, Value.ownBlock (.slice ao9 (L.length + 1) c9) = some g → w3.heap.size ≤ g) := OF5.out.1
        have MM := hide (MU.made JO.out O5.out OF5.out.2 U9.out)
        have ST := hide (storeM (JO.out.next OF5.out.2) A9.out MM.out HBw.out (N3.out _ (Nat.le_refl _) (by omega)) (fun e => by have := U9.out _ e; have := L3.out; omega))
        refine wpAnyH_take (i := 8) (v := .pointer (some ⟨w.heap.size, 0, none⟩)) rfl (by kernel_rfl) (by kernel_rfl) (by kernel_rfl) (fun _ _ _ h => h) (.inl ⟨by rfl, fun W _ => by go_simp⟩) hH ?_
        change wpAnyH _ _ _ _ _ _ _ (Act.put _ (some 170) _) _
        simp only [Act.put, List.setIfInBounds_toArray, List.set_cons_zero, List.set_cons_succ]
        refine wpAnyH_ready (rs := [9]) (by kernel_rfl) (by simp) (AllReadyH.cons rfl (fun K1 hK1 => ?_) AllReadyH.nil)
        go_simp
        refine hK1.out _ _ ST.out.1.a2 (fun hH => ?_)
        clear hK1
        refine wpAnyH_done (by kernel_rfl) ?_ _
        go_wp2_with fail
        go_meet
        exact ⟨_, ST.out.1, ST.out.2.1, ST.out.2.2, fun e => by have := U9.out _ e; have := L3.out; omega⟩
  obtain ⟨u2, HX⟩ := hcut
  obtain ⟨ao2, c2, e2⟩ := HX.out.2.2.1.lx.form
  rw [List.length_append, List.length_singleton] at e2
  subst e2
  have A2 := hide HX.out.1
  clear A3 M3 HSS JO
  go_upto_region 27 with fail
  refine wp_region_held_drew (S := fun W => W.cell? ⟨w.heap.size, 0, none⟩ = some (.slice ao2 (L.length + 1) c2) ∧ W.cell? ⟨w.heap.size, 1, none⟩ = some (.int .u64 (ep : Int))) (by kernel_rfl) ⟨A2.out.m0, A2.out.m1⟩ (fun hH => ?_)
  refine wpAnyH_take (i := 0) (v := .pointer (some ⟨gj, 0, none⟩)) rfl (by kernel_rfl) (by kernel_rfl) (by kernel_rfl) (fun _ _ _ h => h) (yl_move (by rfl) _ (by rfl) _ (by rfl)) hH ?_
  change wpAnyH _ _ _ _ _ _ _ (Act.put _ (some 171) _) _
  simp only [Act.put, List.setIfInBounds_toArray, List.set_cons_zero, List.set_cons_succ]
  refine wpAnyH_take (i := 1) (v := .agg #[.slice ao2 (L.length + 1) c2, .int .u64 (ep : Int)]) rfl (by kernel_rfl) (by kernel_rfl) (by kernel_rfl) (fun _ _ _ h => h) (.inl ⟨by rfl, fun W hS => by have c4 := hS.1; have c5 := hS.2; go_simp⟩) hH ?_
  change wpAnyH _ _ _ _ _ _ _ (Act.put _ (some 172) _) _
  simp only [Act.put, List.setIfInBounds_toArray, List.set_cons_zero, List.set_cons_succ]
  refine wpAnyH_take (i := 2) (v := .int .i64 0) rfl (by kernel_rfl) (by kernel_rfl) (by kernel_rfl) (fun _ _ _ h => h) (yl_move (by rfl) _ (by rfl) _ (by rfl)) hH ?_
  change wpAnyH _ _ _ _ _ _ _ (Act.put _ (some 173) _) _
  simp only [Act.put, List.setIfInBounds_toArray, List.set_cons_zero, List.set_cons_succ]
  refine wpAnyH_take (i := 3) (v := .bool true) rfl (by kernel_rfl) (by kernel_rfl) (by kernel_rfl) (fun _ _ _ h => h) (.inl ⟨by rfl, fun W _ => by go_simp⟩) hH ?_
  change wpAnyH _ _ _ _ _ _ _ (Act.put _ (some 174) _) _
  simp only [Act.put, List.setIfInBounds_toArray, List.set_cons_zero, List.set_cons_succ]
  refine wpAnyH_take (i := 4) (v := .pointer (some ⟨gj, 0, none⟩)) rfl (by kernel_rfl) (by kernel_rfl) (by kernel_rfl) (fun _ _ _ h => h) (.inl ⟨by rfl, fun W _ => by go_simp⟩) hH ?_
  change wpAnyH _ _ _ _ _ _ _ (Act.put _ (some 8) _) _
  simp only [Act.put, List.setIfInBounds_toArray, List.set_cons_zero, List.set_cons_succ]
  have A4 := hide (A2.out.next (Below.refl wc.heap.size wc).drew)
  have J4 := hide (HX.out.2.1.next (Below.refl wc.heap.size wc).drew)
  have M4 := hide (HX.out.2.2.1.next (Below.refl wc.heap.size wc).drew)
  have N4 := hide HX.out.2.2.2
  clear A2 HX
  generalize wc.drew = W4 at *
  have q0 : W4.cell? ⟨w.heap.size + 1 + 1, 0, none⟩ = some (.slice none 0 0) := by rw [cell_of_row _ _ 0 _ _ _ A4.out.r]; rfl
  have q1 : W4.cell? ⟨w.heap.size + 1 + 1, 1, none⟩ = some (.int .u64 0) := by rw [cell_of_row _ _ 1 _ _ _ A4.out.r]; rfl
  have f0 := frozen_of_row _ _ 0 _ _ A4.out.r
  have f1 := frozen_of_row _ _ 1 _ _ A4.out.r
  refine wpAnyH_ready (rs := [5]) (by kernel_rfl) (by simp) (AllReadyH.cons rfl (fun K1 hK1 => ?_) AllReadyH.nil)
  go_simp
  have R5 := hide (st2_row (a := .slice ao2 (L.length + 1) c2) (b := .int .u64 (ep : Int)) A4.out.r)
  have M5 := hide (((st2_fr W4 (w.heap.size + 1 + 1) (.slice ao2 (L.length + 1) c2) (.int .u64 (ep : Int))).block _ (lt_heap A4.out.m) (by omega)).trans A4.out.m)
  refine hK1.out _ (st2 W4 (w.heap.size + 1 + 1) (.slice ao2 (L.length + 1) c2) (.int .u64 (ep : Int))) ⟨by rw [cell_of_row _ _ 0 _ _ _ M5.out]; rfl, by rw [cell_of_row _ _ 1 _ _ _ M5.out]; rfl⟩ (fun hH => ?_)
  clear hK1 q0 q1 f0 f1
  refine wpAnyH_take (i := 6) (v := .bool true) rfl (by kernel_rfl) (by kernel_rfl) (by kernel_rfl) (fun _ _ _ h => h) (.inl ⟨by rfl, fun W _ => by go_simp⟩) hH ?_
  change wpAnyH _ _ _ _ _ _ _ (Act.put _ (some 10) _) _
  simp only [Act.put, List.setIfInBounds_toArray, List.set_cons_zero, List.set_cons_succ]
  refine wpAnyH_done (by kernel_rfl) ?_ _
  have FIN := hide (AP.fin2 J4.out HBs.out (N3.out _ (by omega) (by omega)) M4.out N4.out DS.out _ rfl)
  clear M5
  go_wp2
  (try simp only [Exit.inBlock, Exit.then])
  refine bodyPost_ret (resM AMd rfl _ _ (w.heap.size + 1 + 1) _ _ rfl rfl R5.out _ rfl _ rfl) rfl ?_
  exact FIN.out
end
end Go.Proofs.YtgncphoaknffnaaGreatDoor
