/- Disks: slices.Delete of one fall: its contract. A disk behind a play of its files, and with a loose change more. -/
import Derived.Test.YtppooipamibhoaaGreatDoorX13
namespace Go.Proofs.YtppooipamibhoaaGreatDoor
open Go.RowKit
open Go.Deep
open Go.Lib
set_option linter.unusedVariables false
theorem sizeFl (w : World) : (sizeOf 114).run Tryz.prog w = .ok 4 w := by kernel_rfl
theorem OX.capM {α : Type} {E : Ek α} {w : World} {L : List α} {g n cap : Nat} (h : OX E w (.slice (some ⟨g, 0, none⟩) n cap) L) : L.length ≤ cap ∧ cap ≤ maxLen := by
  rcases h.2 with ⟨h0, _⟩ | ⟨g', cap', cur, hv, hbg, hg, hnc, hcm, hcs, htake⟩
  · cases h0
  · cases hv
    exact ⟨hnc, hcm⟩
theorem OX.at {α : Type} {E : Ek α} {w : World} {L : List α} {g n cap : Nat} (h : OX E w (.slice (some ⟨g, 0, none⟩) n cap) L) (p : Nat) (u : Value) (hu : (flatE E L)[p]? = some u) : w.cell? ⟨g, p, none⟩ = some u := by
  rcases h.2 with ⟨h0, _⟩ | ⟨g', cap', cur, hv, hbg, hg, hnc, hcm, hcs, htake⟩
  · cases h0
  · cases hv
    have hp := (List.getElem?_eq_some_iff.1 hu).1
    rw [← htake, List.getElem?_take] at hu
    rw [flatE_len] at hp
    rw [if_pos hp, Array.getElem?_toList] at hu
    rw [cell_of_row _ _ _ _ _ _ hg]
    exact hu
theorem drop_flat (P : List Fl) (k j : Nat) (hk : k ≤ P.length) : (flatE KFl (P.drop k))[j]? = (flatE KFl P)[k * 4 + j]? := by
  have e : flatE KFl P = flatE KFl (P.take k) ++ flatE KFl (P.drop k) := by rw [← flatE_app, List.take_append_drop]
  have hl : (flatE KFl (P.take k)).length = k * 4 := by rw [flatE_len, List.length_take, Nat.min_eq_left hk]; rfl
  rw [e, List.getElem?_append_right (by omega), hl, Nat.add_sub_cancel_left]
theorem step_appR {w w' : World} {ops : Array Oper} {o : Oper} {a : Act} {K : Act → World → Prop} {Q : Exit → Act → World → Prop} {E0 : Prop} (hgd : o.guard = none) (s x : Operand) (t : TypeId) (ho : o.op = .call { callee := .builtin .append, args := #[s, x], argTypes := #[t, t] }) (vs vx v' : Value) (hs : a.eval s = vs) (hx : a.eval x = vx) (hr : (Builtin.append_ #[t, t] o.type #[vs, vx]).run Tryz.prog w = .ok v' w') (hk : K (a.put o.dst v') w') : if Region.wanted o (yielded ops a.tmps) = true then Oper.wp Tryz.prog o a w K Q else E0 := by
  have hw : Region.wanted o (yielded ops a.tmps) = true := by simp [Region.wanted, hgd]
  rw [if_pos hw]
  unfold Oper.wp execOp
  simp only [ho, resolve, invoke, builtin, Sem.run_bind, Sem.run_pure, Result.andThen_ok, List.map_toArray, List.map_cons, List.map_nil, hs, hx, hr]
  exact hk
section
set_option maxRecDepth 10000
set_option maxHeartbeats 2000000
theorem delete_any (P : List Fl) (g cap i : Nat) (w : World) (h : OX KFl w (.slice (some ⟨g, 0, none⟩) P.length cap) P) (hi : i < P.length) : Calls Tryz.prog 270 #[.slice (some ⟨g, 0, none⟩) P.length cap, .int .i64 (i : Int), .int .i64 ((i : Int) + 1)] w fun e w' => e = .returned (.slice (some ⟨g, 0, none⟩) (P.length - 1) cap) ∧ OX KFl w' (.slice (some ⟨g, 0, none⟩) (P.length - 1) cap) (P.eraseIdx i) ∧ Rfr g w w' := by
  have hc := h.capM
  have hm : maxLen = 9223372036854775807 := rfl
  rw [hm] at hc
  have k0 : (0 : Int) ≤ (i : Int) := by omega
  have k1 : (i : Int) ≤ (P.length : Int) := by omega
  have k2 : (i : Int) + 1 ≤ (P.length : Int) := by omega
  have k3 : (P.length : Int) ≤ (cap : Int) := by omega
  have k4 : ¬ (i : Int) = (i : Int) + 1 := by omega
  have k5 := sizeFl
  have H := hide h
  clear h
  go_enter Tryz.func270, Tryz.ntmps270
  go_upto_region 5 with fail
  obtain ⟨ad, hsl, hnw⟩ : ∃ ad : Addr, (∀ W, (Instr.sliceAt 116 (.slice (some ⟨g, 0, none⟩) P.length cap) (some (.int .i64 ((i : Int) + 1))) none none).run Tryz.prog W = .ok (.slice (some ad) (P.length - (i + 1)) (cap - (i + 1))) W) ∧ Hid (∀ j u, (flatE KFl (P.drop (i + 1)))[j]? = some u → w.drew.cell? (ad.add j) = some u) := by
    by_cases hcap : cap = i + 1
    · refine ⟨⟨g, 0, none⟩, fun W => ?_, fun j u hu => ?_⟩
      · go_simp <;> (intros; omega)
      · have : P.drop (i + 1) = [] := List.drop_of_length_le (by omega)
        rw [this] at hu
        cases hu
    · refine ⟨⟨g, (i + 1) * 4, none⟩, fun W => ?_, fun j u hu => ?_⟩
      · go_simp <;> (intros; omega)
      · rw [drop_flat P (i + 1) j (by omega)] at hu
        have hadd : (⟨g, (i + 1) * 4, none⟩ : Addr).add j = ⟨g, (i + 1) * 4 + j, none⟩ := by unfold Addr.add; split <;> simp_all
        rw [hadd]
        exact H.out.at _ _ hu
  have HN := hide hsl
  have LN := hide (show (flatE KFl (P.drop (i + 1))).length = (P.length - (i + 1)) * KFl.k by rw [flatE_len, List.length_drop])
  have HD : Hid (OX KFl w.drew (.slice (some ⟨g, 0, none⟩) i cap) (P.take i)) := H.out.cut i (by omega)
  have LI := hide (show (P.take i).length = i by rw [List.length_take]; omega)
  have RM := hide (show i + (P.length - (i + 1)) ≤ cap by omega)
  have NM := hide (show i + (P.length - (i + 1)) = P.length - 1 by omega)
  have FD := hide (Rfr.drew g w)
  clear hsl
  refine wp_region_held_drew (S := fun W => True) (by kernel_rfl) trivial (fun hH => ?_)
  generalize w.drew = W1 at *
  refine wpAnyH_take (i := 0) (v := (.slice (some ⟨g, 0, none⟩) P.length cap)) rfl (by kernel_rfl) (by kernel_rfl) (by kernel_rfl) (fun _ _ _ h => h) (ylD_move (by rfl) _ (by rfl) _ (by rfl)) hH ?_
  change wpAnyH _ _ _ _ _ _ _ (Act.put _ (some 20) _) _
  simp only [Act.put, List.setIfInBounds_toArray, List.set_cons_zero, List.set_cons_succ]
  refine wpAnyH_take (i := 1) (v := (.int .i64 (i : Int))) rfl (by kernel_rfl) (by kernel_rfl) (by kernel_rfl) (fun _ _ _ h => h) (ylD_move (by rfl) _ (by rfl) _ (by rfl)) hH ?_
  change wpAnyH _ _ _ _ _ _ _ (Act.put _ (some 21) _) _
  simp only [Act.put, List.setIfInBounds_toArray, List.set_cons_zero, List.set_cons_succ]
  refine wpAnyH_take (i := 2) (v := (.slice (some ⟨g, 0, none⟩) i cap)) rfl (by kernel_rfl) (by kernel_rfl) (by kernel_rfl) (fun _ _ _ h => h) (.inl ⟨by rfl, fun W _ => by go_simp <;> (intros; omega)⟩) hH ?_
  change wpAnyH _ _ _ _ _ _ _ (Act.put _ (some 22) _) _
  simp only [Act.put, List.setIfInBounds_toArray, List.set_cons_zero, List.set_cons_succ]
  refine wpAnyH_take (i := 3) (v := (.slice (some ⟨g, 0, none⟩) P.length cap)) rfl (by kernel_rfl) (by kernel_rfl) (by kernel_rfl) (fun _ _ _ h => h) (ylD_move (by rfl) _ (by rfl) _ (by rfl)) hH ?_
  change wpAnyH _ _ _ _ _ _ _ (Act.put _ (some 23) _) _
  simp only [Act.put, List.setIfInBounds_toArray, List.set_cons_zero, List.set_cons_succ]
  refine wpAnyH_take (i := 4) (v := (.int .i64 ((i : Int) + 1))) rfl (by kernel_rfl) (by kernel_rfl) (by kernel_rfl) (fun _ _ _ h => h) (ylD_move (by rfl) _ (by rfl) _ (by rfl)) hH ?_
  change wpAnyH _ _ _ _ _ _ _ (Act.put _ (some 24) _) _
  simp only [Act.put, List.setIfInBounds_toArray, List.set_cons_zero, List.set_cons_succ]
  refine wpAnyH_take (i := 5) (v := (.slice (some ad) (P.length - (i + 1)) (cap - (i + 1)))) rfl (by kernel_rfl) (by kernel_rfl) (by kernel_rfl) (fun _ _ _ h => h) (yl_slice (by rfl) _ _ _ (by rfl) _ _ (by rfl) _ _ (by rfl) (by rfl) HN.out) hH ?_
  change wpAnyH _ _ _ _ _ _ _ (Act.put _ (some 25) _) _
  simp only [Act.put, List.setIfInBounds_toArray, List.set_cons_zero, List.set_cons_succ]
  refine wpAnyH_ready (rs := [6]) (by kernel_rfl) (by simp) (AllReadyH.cons rfl (fun K1 hK1 => ?_) AllReadyH.nil)
  obtain ⟨i0, z0, hi0, hz0, hzs, hz1, hz2⟩ := KFl.parts
  obtain ⟨W2, hr, ho2, hg2⟩ := run_append_own_spare (P := Tryz.prog) W1 0 116 116 114 i0 4 KFl.sl hi0 hz1 g i cap (flatE KFl (P.take i)) (by have := HD.out; unfold OX at this; rw [LI.out] at this; exact this) ad (P.length - (i + 1)) (cap - (i + 1)) (flatE KFl (P.drop (i + 1))) LN.out hnw.out (flatE_cell KFl _) RM.out
  rw [NM.out] at hr ho2
  have O2 : Hid (OX KFl W2 (.slice (some ⟨g, 0, none⟩) (P.length - 1) cap) (P.eraseIdx i)) := by
    show OX _ _ _ _
    unfold OX
    rw [List.eraseIdx_eq_take_drop_succ, flatE_app, show (P.take i ++ P.drop (i + 1)).length = P.length - 1 by rw [List.length_append, LI.out, List.length_drop]; omega]
    exact ho2
  have F2 : Hid (Rfr g w W2) := FD.out.trans ⟨hg2.os, hg2.tape, hg2.output, hg2.size, fun k hk hn => hg2.block k hk (fun e => hn (Option.some.inj e))⟩
  clear ho2 hg2 hi0 hz0 hzs hz1 hz2 HD HN hnw LN FD RM
  refine step_appR (by rfl) _ _ 116 (by rfl) _ _ (.slice (some ⟨g, 0, none⟩) (P.length - 1) cap) (by rfl) (by rfl) hr ?_
  clear hr
  refine hK1.out _ _ trivial (fun hH => ?_)
  clear hK1
  change wpAnyH _ _ _ _ _ _ _ (Act.put _ (some 26) _) _
  simp only [Act.put, List.setIfInBounds_toArray, List.set_cons_zero, List.set_cons_succ]
  refine wpAnyH_ready (rs := [7]) (by kernel_rfl) (by simp) (AllReadyH.cons rfl (fun K1 hK1 => ?_) AllReadyH.nil)
  go_simp
  refine hK1.out _ _ trivial (fun hH => ?_)
  clear hK1
  refine wpAnyH_done (by kernel_rfl) ?_ _
  clear hH
  have LE := hide (show (P.eraseIdx i).length = P.length - 1 by rw [List.length_eraseIdx, if_pos hi])
  have hcl : ∀ ty, (Builtin.clear_ #[116] ty #[.slice (some ⟨g, (P.length - 1) * 4, none⟩) (P.length - (P.length - 1)) (cap - (P.length - 1))]).run Tryz.prog W2 = .ok (.tuple #[]) (W2.setCells g ((P.length - 1) * 4) [.int .i64 0, .int .i64 0, .int .i64 0, .bool false]) := fun ty => by
    rw [show P.length - (P.length - 1) = 1 by omega]
    exact clear_fall W2 ty g _ _ (fun j hj => O2.out.there _ (show (P.length - 1) * 4 + j < cap * 4 by omega))
  have O3 : Hid (OX KFl (W2.setCells g ((P.length - 1) * 4) [.int .i64 0, .int .i64 0, .int .i64 0, .bool false]) (.slice (some ⟨g, 0, none⟩) (P.length - 1) cap) (P.eraseIdx i)) := by
    have hle : (P.eraseIdx i).length * KFl.k = (P.length - 1) * 4 := by rw [LE.out]; rfl
    exact (((O2.out.behind ((P.length - 1) * 4) (by omega) _).behind ((P.length - 1) * 4 + 1) (by omega) _).behind ((P.length - 1) * 4 + 1 + 1) (by omega) _).behind ((P.length - 1) * 4 + 1 + 1 + 1) (by omega) _
  have F3 := hide (F2.out.trans (Rfr.setCells g [.int .i64 0, .int .i64 0, .int .i64 0, .bool false] ((P.length - 1) * 4) W2))
  go_upto_region 7 with fail
  clear hcl O2 F2
  generalize W2.setCells g ((P.length - 1) * 4) [.int .i64 0, .int .i64 0, .int .i64 0, .bool false] = W3 at *
  go_wp2
  go_ret
  exact ⟨rfl, O3.out, F3.out⟩
end
end Go.Proofs.YtppooipamibhoaaGreatDoor
namespace Go.Proofs.YtppooipamibhoaaGreatDoor
open Go.RowKit
open Go.Deep
open Go.Lib
theorem infoCh : (Tryz.prog.info? 327).map (fun i => (i.zero, i.size, i.bytes)) = some (some (.agg zch), 5, 64) := by kernel_rfl
section
variable {W w' : World} {gd b : Nat} {x : StD} {T S1 S2 : Nat → Prop} {mn ms : Option Nat} {vo vp : Value} {F : List UInt8 → Option Value} {f' : FS}
theorem DP.played0 (h : DP W gd x T S1 S2 mn ms vo vp) (hf : Fs w' b F f' (grow S1 W w')) (hr : w'.rowIs gd 233 6 (up1 (dc mn ms vo vp x.made x.dead) 0 (.map (some b)))) (fr : Fr (fun g => S1 g ∨ g = gd) W w') : DP w' gd { x with now := f' } (grow T W w') (grow S1 W w') S2 (some b) ms vo vp ∧ Fr T W w' := by
  have hT : Fr T W w' := fr.mono fun g hg => by
    rcases hg with hg | rfl
    · exact h.t1 g hg
    · exact h.tg
  have hb : ∀ g, T g → ¬ S1 g → g ≠ gd → w'.heap[g]? = W.heap[g]? := fun g ht h1 h2 => fr.block g (h.lt g ht) fun e => by
    rcases e with e | e
    · exact h1 e
    · exact h2 e
  refine ⟨⟨hr.congr fun i hi => ?_, .inr ⟨b, F, rfl, hf⟩, h.sure.frame fr.size fun g hg => hb g (h.t2 g hg) (fun e => h.apart g e hg) fun e => h.d2 (e ▸ hg), rowsOf h.loose fun g hg => hb g (h.tl g hg) (h.l1 g hg).1 (h.l1 g hg).2.2, rowsOf h.plan fun g hg => hb g (h.tp g hg) (h.p1 g hg).1 (h.p1 g hg).2.2, .inl h.tg, fun g hg => ?_, fun g hg => .inl (h.t2 g hg), fun g hg => .inl (h.tl g hg), fun g hg => .inl (h.tp g hg), fun g hg h2 => ?_, fun hg => ?_, h.d2, fun g hg => ⟨fun e => ?_, (h.l1 g hg).2⟩, fun g hg => ⟨fun e => ?_, (h.p1 g hg).2⟩, grow_lt h.lt fr.size⟩, hT⟩
  · have : i = 0 ∨ i = 1 ∨ i = 2 ∨ i = 3 ∨ i = 4 ∨ i = 5 := by omega
    rcases this with rfl | rfl | rfl | rfl | rfl | rfl <;> rfl
  · rcases hg with hg | hg
    · exact .inl (h.t1 g hg)
    · exact .inr hg
  · rcases hg with hg | ⟨hg, _⟩
    · exact h.apart g hg h2
    · have := h.lt g (h.t2 g h2)
      omega
  · rcases hg with hg | ⟨hg, _⟩
    · exact h.d1 hg
    · have := h.lt gd h.tg
      omega
  · rcases e with e | ⟨e, _⟩
    · exact (h.l1 g hg).1 e
    · have := h.lt g (h.tl g hg)
      omega
  · rcases e with e | ⟨e, _⟩
    · exact (h.p1 g hg).1 e
    · have := h.lt g (h.tp g hg)
      omega
theorem DP.played1 (h : DP W gd x T S1 S2 mn ms vo vp) (hf : Fs w' b F f' (grow S2 W w')) (hr : w'.rowIs gd 233 6 (up1 (dc mn ms vo vp x.made x.dead) 1 (.map (some b)))) (fr : Fr (fun g => S2 g ∨ g = gd) W w') : DP w' gd { x with sure := f' } (grow T W w') S1 (grow S2 W w') mn (some b) vo vp ∧ Fr T W w' := by
  have hT : Fr T W w' := fr.mono fun g hg => by
    rcases hg with hg | rfl
    · exact h.t2 g hg
    · exact h.tg
  have hb : ∀ g, T g → ¬ S2 g → g ≠ gd → w'.heap[g]? = W.heap[g]? := fun g ht h1 h2 => fr.block g (h.lt g ht) fun e => by
    rcases e with e | e
    · exact h1 e
    · exact h2 e
  refine ⟨⟨hr.congr fun i hi => ?_, h.now.frame fr.size fun g hg => hb g (h.t1 g hg) (fun e => h.apart g hg e) fun e => h.d1 (e ▸ hg), .inr ⟨b, F, rfl, hf⟩, rowsOf h.loose fun g hg => hb g (h.tl g hg) (h.l1 g hg).2.1 (h.l1 g hg).2.2, rowsOf h.plan fun g hg => hb g (h.tp g hg) (h.p1 g hg).2.1 (h.p1 g hg).2.2, .inl h.tg, fun g hg => .inl (h.t1 g hg), fun g hg => ?_, fun g hg => .inl (h.tl g hg), fun g hg => .inl (h.tp g hg), fun g h1 hg => ?_, h.d1, fun hg => ?_, fun g hg => ⟨(h.l1 g hg).1, fun e => ?_, (h.l1 g hg).2.2⟩, fun g hg => ⟨(h.p1 g hg).1, fun e => ?_, (h.p1 g hg).2.2⟩, grow_lt h.lt fr.size⟩, hT⟩
  · have : i = 0 ∨ i = 1 ∨ i = 2 ∨ i = 3 ∨ i = 4 ∨ i = 5 := by omega
    rcases this with rfl | rfl | rfl | rfl | rfl | rfl <;> rfl
  · rcases hg with hg | hg
    · exact .inl (h.t2 g hg)
    · exact .inr hg
  · rcases hg with hg | ⟨hg, _⟩
    · exact h.apart g h1 hg
    · have := h.lt g (h.t1 g h1)
      omega
  · rcases hg with hg | ⟨hg, _⟩
    · exact h.d2 hg
    · have := h.lt gd h.tg
      omega
  · rcases e with e | ⟨e, _⟩
    · exact (h.l1 g hg).2.1 e
    · have := h.lt g (h.tl g hg)
      omega
  · rcases e with e | ⟨e, _⟩
    · exact (h.p1 g hg).2.1 e
    · have := h.lt g (h.tp g hg)
      omega
theorem chs_snoc (l : List Ch) (c : Ch) : chs (l ++ [c]) = chs l ++ (chv c).toList := by simp [chs]
/-- A change behind the loose ones. -/
theorem run_appC {w : World} {l : List Ch} {ty : TypeId} (h : w.ownsRow 0 327 5 vo l.length (chs l)) (g : Nat) (c : Ch) (hg : w.heap[g]? = some (.cells (chv c) 327 (0, 0))) (hl : l.length ≤ 100000) : ∃ v' w', (Builtin.append_ #[231, 231] ty #[vo, .slice (some ⟨g, 0, none⟩) 1 1]).run Tryz.prog w = .ok v' w' ∧ w'.ownsRow 0 327 5 v' (l ++ [c]).length (chs (l ++ [c])) ∧ Onto w w' vo v' := by
  obtain ⟨i0, hi, hz0, hz1, hz2⟩ := info_parts infoCh
  obtain ⟨v', w', hr, h2, h3, _, h5⟩ := run_append_own_at (P := Tryz.prog) w 0 231 ty 327 i0 (.agg zch) 5 64 Tryz.underlying231 hi hz0 hz1 hz2 rfl (by decide) vo l.length (chs l) h ⟨g, 0, none⟩ 1 1 (chv c).toList rfl
    (fun j u hu => by
      rw [addr_add, Nat.zero_add, cell_of_row _ _ _ _ _ _ hg]
      simpa using hu)
    (fun u hu => by
      have := chv_one c
      rw [Array.all_eq_true_iff_forall_mem] at this
      exact this u (by simpa using hu)) (by unfold maxLen; omega) (by omega) (Nat.zero_le _)
  refine ⟨v', w', hr, ?_, ⟨h3, ?_⟩⟩
  · rw [chs_snoc, List.length_append]
    exact h2
  · rcases h5 with h5 | h5
    · exact .inl h5
    · exact .inr ⟨_, h5, Nat.le_refl _⟩
/-- A loose change more: the append, then the store of its list. -/
theorem DP.more (h : DP W gd x T S1 S2 mn ms vo vp) {l' : List Ch} {v' : Value} (ho : w'.ownsRow 0 327 5 v' l'.length (chs l')) (on : Onto W w' vo v') : DP (w'.setCell ⟨gd, 2, none⟩ v') gd { x with loose := l' } (grow T W w') S1 S2 mn ms v' vp ∧ Fr T W (w'.setCell ⟨gd, 2, none⟩ v') := by
  have hs := on.grown.size
  have hz : (w'.setCell ⟨gd, 2, none⟩ v').heap.size = w'.heap.size := by simp [World.setCell]
  have hb1 : ∀ g, T g → vo.ownBlock ≠ some g → w'.heap[g]? = W.heap[g]? := fun g ht hne => on.grown.block g (h.lt g ht) fun e => hne e.symm
  have hb : ∀ g, T g → vo.ownBlock ≠ some g → g ≠ gd → (w'.setCell ⟨gd, 2, none⟩ v').heap[g]? = W.heap[g]? := fun g ht hne hg => (Below.heap_setCell _ _ _ _ hg).trans (hb1 g ht hne)
  have nd : vo.ownBlock ≠ some gd := fun e => (h.l1 gd e).2.2 rfl
  have hrow := World.rowIs.set (World.rowIs.of_block h.row (hb1 gd h.tg nd)) 2 v'
  have far : ∀ g, v'.ownBlock = some g → vo.ownBlock = some g ∨ (W.heap.size ≤ g ∧ g < w'.heap.size) := fun g hg => by
    rcases on.lies with e | ⟨g2, e, hge⟩
    · rw [e] at hg
      exact .inl hg
    · have := (ho.lt g hg).2
      rw [e] at hg
      cases hg
      exact .inr ⟨hge, this⟩
  have l1 : ∀ g, v'.ownBlock = some g → ¬ S1 g ∧ ¬ S2 g ∧ g ≠ gd := fun g hg => by
    rcases far g hg with e | ⟨e, _⟩
    · exact h.l1 g e
    · refine ⟨fun c => ?_, fun c => ?_, fun c => ?_⟩
      · have := h.lt g (h.t1 g c)
        omega
      · have := h.lt g (h.t2 g c)
        omega
      · have := h.lt gd h.tg
        omega
  have hvp : ∀ g, vp.ownBlock = some g → vo.ownBlock ≠ some g := fun g hg e => by
    rcases h.plan.2 with ⟨rfl, _⟩ | ⟨g1, cap, cur, rfl, _, hg1, _⟩
    · cases hg
    · rcases h.loose.2 with ⟨rfl, _⟩ | ⟨g2, cap2, cur2, rfl, _, hg2, _⟩
      · cases e
      · cases hg
        cases e
        rw [hg1] at hg2
        injection hg2 with hg2
        injection hg2 with _ e2
        exact absurd e2 (by decide)
  refine ⟨⟨hrow.congr fun i hi => ?_, h.now.frame (by omega) fun g hg => hb g (h.t1 g hg) (fun e => (h.l1 g e).1 hg) fun e => h.d1 (e ▸ hg), h.sure.frame (by omega) fun g hg => hb g (h.t2 g hg) (fun e => (h.l1 g e).2.1 hg) fun e => h.d2 (e ▸ hg), rowsOf ho fun g hg => Below.heap_setCell _ _ _ _ (l1 g hg).2.2, rowsOf h.plan fun g hg => hb g (h.tp g hg) (hvp g hg) (h.p1 g hg).2.2, .inl h.tg, fun g hg => .inl (h.t1 g hg), fun g hg => .inl (h.t2 g hg), fun g hg => ?_, fun g hg => .inl (h.tp g hg), h.apart, h.d1, h.d2, l1, h.p1, fun g hg => by rw [hz]; exact grow_lt h.lt hs g hg⟩, ?_⟩
  · have : i = 0 ∨ i = 1 ∨ i = 2 ∨ i = 3 ∨ i = 4 ∨ i = 5 := by omega
    rcases this with rfl | rfl | rfl | rfl | rfl | rfl <;> rfl
  · rcases far g hg with e | e
    · exact .inl (h.tl g e)
    · exact .inr e
  · exact (Fr.of_grown on.grown h.tl).trans' (Fr.setCell _ h.tg _)
/-- Another number of changes. -/
theorem DP.setMade (h : DP W gd x T S1 S2 mn ms vo vp) (n : Nat) : DP (W.setCell ⟨gd, 3, none⟩ (.int .i64 (n : Int))) gd { x with made := n } T S1 S2 mn ms vo vp := by
  have hb : ∀ g, g ≠ gd → (W.setCell ⟨gd, 3, none⟩ (.int .i64 (n : Int))).heap[g]? = W.heap[g]? := fun g hg => Below.heap_setCell _ _ _ _ hg
  have hs : (W.setCell ⟨gd, 3, none⟩ (.int .i64 (n : Int))).heap.size = W.heap.size := by simp [World.setCell]
  refine ⟨(World.rowIs.set h.row 3 (.int .i64 (n : Int))).congr fun i hi => ?_, h.now.frame (by omega) fun g hg => hb g fun e => h.d1 (e ▸ hg), h.sure.frame (by omega) fun g hg => hb g fun e => h.d2 (e ▸ hg), rowsOf h.loose fun g hg => hb g (h.l1 g hg).2.2, rowsOf h.plan fun g hg => hb g (h.p1 g hg).2.2, h.tg, h.t1, h.t2, h.tl, h.tp, h.apart, h.d1, h.d2, h.l1, h.p1, fun g hg => by rw [hs]; exact h.lt g hg⟩
  have : i = 0 ∨ i = 1 ∨ i = 2 ∨ i = 3 ∨ i = 4 ∨ i = 5 := by omega
  rcases this with rfl | rfl | rfl | rfl | rfl | rfl <;> rfl
/-- No loose change any more. -/
theorem DP.noLoose (h : DP W gd x T S1 S2 mn ms vo vp) : DP (W.setCell ⟨gd, 2, none⟩ (.slice none 0 0)) gd { x with loose := [] } T S1 S2 mn ms (.slice none 0 0) vp := by
  have hb : ∀ g, g ≠ gd → (W.setCell ⟨gd, 2, none⟩ (.slice none 0 0)).heap[g]? = W.heap[g]? := fun g hg => Below.heap_setCell _ _ _ _ hg
  have hs : (W.setCell ⟨gd, 2, none⟩ (.slice none 0 0)).heap.size = W.heap.size := by simp [World.setCell]
  refine ⟨(World.rowIs.set h.row 2 (.slice none 0 0)).congr fun i hi => ?_, h.now.frame (by omega) fun g hg => hb g fun e => h.d1 (e ▸ hg), h.sure.frame (by omega) fun g hg => hb g fun e => h.d2 (e ▸ hg), World.ownsRow_nil _ _ _ _, rowsOf h.plan fun g hg => hb g (h.p1 g hg).2.2, h.tg, h.t1, h.t2, fun g hg => (by cases hg), h.tp, h.apart, h.d1, h.d2, fun g hg => (by cases hg), h.p1, fun g hg => by rw [hs]; exact h.lt g hg⟩
  have : i = 0 ∨ i = 1 ∨ i = 2 ∨ i = 3 ∨ i = 4 ∨ i = 5 := by omega
  rcases this with rfl | rfl | rfl | rfl | rfl | rfl <;> rfl
end
end Go.Proofs.YtppooipamibhoaaGreatDoor
