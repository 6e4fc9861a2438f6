/- The document's disk: does a fall of the plan strike? -/
import Derived.Test.YthnfpdmhjennlaaV28
import Derived.BigQuiet
namespace Go.Proofs.Ythnfpdmhjennlaa
open Go.RowKit
open Go.Deep
open Go.Lib
set_option linter.unusedVariables false
theorem resA2 {t : TypeId} {n : Nat} {z : Array Value} (A : Arr t n z) {fn : Func} {p u : Tmp} (hf : fn.results = #[.cell p t, .tmp u]) (tmps : Array Value) (w : World) (g : Nat) (t' : TypeId) (c : Array Value) (hn : c.size = n)
    (hp : tmps.getD p undef = .pointer (some ⟨g, 0, none⟩)) (hg : w.heap[g]? = some (.cells c t' (0, 0))) (x : Value) (hx : tmps.getD u undef = x) : (results fn tmps).run Try.prog w = .ok (.tuple #[.agg c, x]) w := by
  subst hx
  have hp' : tmps[p]?.getD undef = .pointer (some ⟨g, 0, none⟩) := by simpa using hp
  rcases A.und with ⟨m, e, hd⟩ | ⟨fs, hd⟩ <;> simp [results, hf, hp', asAddr, run_loadVar_row w g t' t c (0, 0) _ hg hd rfl (by rw [A.info, hn])]
section
set_option maxRecDepth 10000
set_option maxHeartbeats 8000000
theorem rstrikes_any (K : Nat → Prop) (x : St) (v : Value) (b : Bool) (w : World) (hv : isD K w v x) (hV : Vd x) (hP : okP x.plan) (hz : x.plan.length * 32 ≤ 140737488355328) (hd : x.dead = false) (hK : ∀ g, K g → g < w.heap.size) : Calls Try.prog 42 #[v, .bool b] w fun e w' => ∃ v', e = .returned (.tuple #[v', .bool (stS x b).isSome]) ∧ isD K w' v' ((stS x b).getD x) ∧ Below w.heap.size w w' := by
  obtain ⟨vs, vl, vp, S, rfl, h⟩ := hv
  obtain ⟨ao, cs, rfl⟩ := h.sure.form
  obtain ⟨al, cl, rfl⟩ := h.loose.form
  obtain ⟨ap, cp, rfl⟩ := h.plan.form
  have hcp : x.plan.length ≤ cp := by
    obtain ⟨_, _, e, h2, _⟩ := h.plan.now
    cases e
    exact h2
  unfold dcs
  have s1 : (w.alloc (.cells #[.slice ao S.length cs, .slice al x.loose.length cl, .int .i64 (x.made : Int), .slice ap x.plan.length cp, .bool x.dead] 30)).heap.size = w.heap.size + 1 := by simp
  have r1 := (Below.heap_alloc _ (.cells (dcs (.slice none 0 0) (.slice none 0 0) 0 (.slice none 0 0) false) 30) w.heap.size (by rw [s1]; omega)).trans (heap_alloc_last w (.cells #[.slice ao S.length cs, .slice al x.loose.length cl, .int .i64 (x.made : Int), .slice ap x.plan.length cp, .bool x.dead] 30))
  have r2 := heap_alloc_last (w.alloc (.cells #[.slice ao S.length cs, .slice al x.loose.length cl, .int .i64 (x.made : Int), .slice ap x.plan.length cp, .bool x.dead] 30)) (.cells (dcs (.slice none 0 0) (.slice none 0 0) 0 (.slice none 0 0) false) 30)
  rw [s1] at r2
  have hB : Below w.heap.size w ((w.alloc (.cells #[.slice ao S.length cs, .slice al x.loose.length cl, .int .i64 (x.made : Int), .slice ap x.plan.length cp, .bool x.dead] 30)).alloc (.cells (dcs (.slice none 0 0) (.slice none 0 0) 0 (.slice none 0 0) false) 30)) := ((Below.refl w.heap.size w).alloc (Nat.le_refl _) _).alloc (by rw [s1]; omega) _
  have HB := hide hB
  have R1 := hide r1
  have R2 := hide r2
  have H1 := hide (h.up hB)
  have HK : Hid (∀ g, grow K w ((w.alloc (.cells #[.slice ao S.length cs, .slice al x.loose.length cl, .int .i64 (x.made : Int), .slice ap x.plan.length cp, .bool x.dead] 30)).alloc (.cells (dcs (.slice none 0 0) (.slice none 0 0) 0 (.slice none 0 0) false) 30)) g → g < ((w.alloc (.cells #[.slice ao S.length cs, .slice al x.loose.length cl, .int .i64 (x.made : Int), .slice ap x.plan.length cp, .bool x.dead] 30)).alloc (.cells (dcs (.slice none 0 0) (.slice none 0 0) 0 (.slice none 0 0) false) 30)).heap.size) := grow_lt hK hB.size
  have HKn : Hid (∀ g, K g → grow K w ((w.alloc (.cells #[.slice ao S.length cs, .slice al x.loose.length cl, .int .i64 (x.made : Int), .slice ap x.plan.length cp, .bool x.dead] 30)).alloc (.cells (dcs (.slice none 0 0) (.slice none 0 0) 0 (.slice none 0 0) false) 30)) g) := fun g hg => .inl hg
  have HKo : Hid (∀ g, w.heap.size ≤ g → g < w.heap.size + 2 → grow K w ((w.alloc (.cells #[.slice ao S.length cs, .slice al x.loose.length cl, .int .i64 (x.made : Int), .slice ap x.plan.length cp, .bool x.dead] 30)).alloc (.cells (dcs (.slice none 0 0) (.slice none 0 0) 0 (.slice none 0 0) false) 30)) g) := fun g h1 h2 => .inr ⟨h1, by simp; omega⟩
  have HDD := hide hd
  have HVd := hide hV
  have HPP := hide hP
  have HZ := hide hz
  have HCP := hide hcp
  clear hB r1 r2 h hd hV hK hP hz hcp
  generalize grow K w ((w.alloc (.cells #[.slice ao S.length cs, .slice al x.loose.length cl, .int .i64 (x.made : Int), .slice ap x.plan.length cp, .bool x.dead] 30)).alloc (.cells (dcs (.slice none 0 0) (.slice none 0 0) 0 (.slice none 0 0) false) 30)) = K2 at *
  go_enter Try.func42, Try.ntmps42
  go_upto_region 1 with ((with_reducible refine at_list ?_); first | refine wpList_boxA rfl _ rfl _ rfl ?_ | refine wpList_allocA ADd rfl rfl ?_)
  try rw [s1]
  clear s1
  generalize ((w.alloc (.cells #[.slice ao S.length cs, .slice al x.loose.length cl, .int .i64 (x.made : Int), .slice ap x.plan.length cp, .bool x.dead] 30)).alloc (.cells (dcs (.slice none 0 0) (.slice none 0 0) 0 (.slice none 0 0) false) 30)) = W1 at *
  generalize hgb : w.heap.size = b0 at *
  have CC : Hid (∀ W, Below W1.heap.size W1 W → W.heap[b0]? = some (.cells #[.slice ao S.length cs, .slice al x.loose.length cl, .int .i64 (x.made : Int), .slice ap x.plan.length cp, .bool x.dead] 30 (0, 0)) ∧ W.heap[b0 + 1]? = some (.cells (dcs (.slice none 0 0) (.slice none 0 0) 0 (.slice none 0 0) false) 30 (0, 0)) ∧ W.cell? ⟨b0, 2, none⟩ = some (.int .i64 (x.made : Int)) ∧ W.cell? ⟨b0, 3, none⟩ = some (.slice ap x.plan.length cp)) := fun W b => by
    have e1 := (b.block _ (lt_heap R1.out)).trans R1.out
    refine ⟨e1, (b.block _ (lt_heap R2.out)).trans R2.out, ?_, ?_⟩ <;> (rw [cell_of_row _ _ _ _ _ _ e1]; rfl)
  go_wp2
  go_loopw [6] (fun i wr => ∃ k : Nat, k ≤ x.plan.length ∧ i = .int .i64 (k : Int) ∧ Hid (∀ f ∈ x.plan.take k, hereB x.made b f = false) ∧ Hid (Below W1.heap.size W1 wr)) (fun i _ => (x.plan.length - intOf i).toNat)
  case atStart => exact ⟨0, Nat.zero_le _, rfl, fun f hf => by simp at hf, Below.refl _ _⟩
  case round =>
    obtain ⟨k, hk, rfl, HN, J⟩ := hrel
    obtain ⟨r1, r2, c2, c3⟩ := CC.out _ J.out
    have RA := hide r1
    have RB := hide r2
    clear r1 r2
    have h0 : (0 : Int) ≤ (k : Int) := by omega
    by_cases hlt : k < x.plan.length
    · obtain ⟨g, off, rfl⟩ := H1.out.plan.now.base (by omega)
      have hr := (H1.out.plan.now.below J.out).range k hlt
      have d0 : wr.cell? ⟨g, off + k * 4, none⟩ = some (.int .i64 x.plan[k].pos) := hr 0 _ rfl
      have d3 : wr.cell? ⟨g, off + k * 4 + 3, none⟩ = some (.bool x.plan[k].sync) := hr 3 _ rfl
      have h2 : (k : Int) < x.plan.length := by omega
      have e1 : IntKind.i64.wrap ((k : Int) + 1) = k + 1 := wrapI _ (by omega) (by have := HPP.out.len; omega)
      have HS : Hid (hereB x.made b x.plan[k] = true → stS x b = some (flC { x with plan := x.plan.eraseIdx k } x.plan[k].keep x.plan[k].torn)) := fun hy => st_some hlt HN.out hy
      have HM : Hid (hereB x.made b x.plan[k] = false → ∀ f ∈ x.plan.take (k + 1), hereB x.made b f = false) := fun hy f hf => by
        rw [List.take_succ_eq_append_getElem hlt] at hf
        rcases List.mem_append.1 hf with hf | hf
        · exact HN.out f hf
        · rw [List.mem_singleton.1 hf]; exact hy
      have KP : Hid (-9223372036854775808 ≤ x.plan[k].keep ∧ x.plan[k].keep < 9223372036854775808) := HPP.out.keep _ (List.getElem_mem hlt)
      generalize x.plan[k] = f at *
      have LT := hide hlt
      clear hlt hk
      by_cases p1 : f.pos = (x.made : Int)
      · have q1 : (f.pos == (x.made : Int)) = true := by simpa using p1
        by_cases p2 : f.sync = b
        · have HY := hide (HS.out (by unfold hereB; simp [p1, p2]))
          rw [p1] at d0
          rw [p2] at d3
          clear HS HM HN p1 q1
          go_upto_region 4 with fail
          go_quiet (fail)
          have J5 := hide (below_drewN J.out nq)
          have hr5 : (wr.drewN nq).rangeAt g (off + k * KFr.k) (KFr.enc f) := hr
          have c35 : (wr.drewN nq).cell? ⟨b0, 3, none⟩ = some (.slice (some ⟨g, off, none⟩) x.plan.length cp) := c3
          clear J c2 c3 d0 d3 hr RA RB
          generalize wr.drewN nq = W5 at *
          go_upto_region 6 with ((with_reducible refine at_list ?_); first | refine wpList_loadFr rfl _ rfl g (off + k * 4) rfl f hr5 ?_ | refine wpList_allocA AFr rfl rfl ?_ | refine wpList_store_newA AFr rfl _ _ rfl _ rfl (flv f).toArray rfl (by simp [flv, Value.oneCell']) rfl rfl ?_)
          have R9 := hide (heap_alloc_last W5 (.cells (flv f).toArray 93))
          have J6 := hide (below_next J5.out ((Below.refl W5.heap.size W5).alloc (Nat.le_refl _) (.cells (flv f).toArray 93)))
          have L9 : Hid (W1.heap.size ≤ W5.heap.size) := J5.out.size
          clear hr5 c35 J5
          generalize W5.heap.size = g9 at *
          generalize W5.alloc (.cells (flv f).toArray 93) = wz at *
          have FRR : Hid (∀ W, Below wz.heap.size wz W → W.heap[b0]? = some (.cells #[.slice ao S.length cs, .slice al x.loose.length cl, .int .i64 (x.made : Int), .slice (some ⟨g, off, none⟩) x.plan.length cp, .bool x.dead] 30 (0, 0)) ∧ W.cell? ⟨b0, 3, none⟩ = some (.slice (some ⟨g, off, none⟩) x.plan.length cp) ∧ W.heap[b0 + 1]? = some (.cells (dcs (.slice none 0 0) (.slice none 0 0) 0 (.slice none 0 0) false) 30 (0, 0))) := fun W b => ⟨(CC.out W (below_next J6.out b)).1, (CC.out W (below_next J6.out b)).2.2.2, (CC.out W (below_next J6.out b)).2.1⟩
          have LP := hide (H1.out.plan.now.below J6.out)
          have KL : Hid (k ≤ x.plan.length) := by have := LT.out; show _ ≤ _; omega
          have KL2 : Hid (k + 1 ≤ x.plan.length) := LT.out
          obtain ⟨ab, hab, hlx⟩ := KFr.cutB (some ⟨g, off, none⟩) x.plan.length cp (k + 1) KL2.out HCP.out
          have HCB : Hid (∀ W, (Instr.sliceAt KFr.t (.slice (some ⟨g, off, none⟩) x.plan.length cp) (some (.int .i64 ((k : Int) + 1))) none none).run Try.prog W = .ok (.slice ab (x.plan.length - (k + 1)) (cp - (k + 1))) W) := fun W => hab W
          have HLX := hide hlx
          have HKz : Hid (∀ g, K2 g → g < wz.heap.size) := fun q hq => Nat.lt_of_lt_of_le (HK.out q hq) J6.out.size
          have ZA : Hid ((([] : List Fl).length + (x.plan.take k).length) * KFr.b ≤ 140737488355328 ∧ ([] : List Fl).length + (x.plan.take k).length ≤ maxLen) := by have := HZ.out; have h3 := KL.out; rw [List.length_take]; exact ⟨show (0 + min k x.plan.length) * 32 ≤ _ by omega, show 0 + min k x.plan.length ≤ _ by unfold maxLen; omega⟩
          have ZB : Hid (((([] : List Fl) ++ x.plan.take k).length + (x.plan.drop (k + 1)).length) * KFr.b ≤ 140737488355328 ∧ (([] : List Fl) ++ x.plan.take k).length + (x.plan.drop (k + 1)).length ≤ maxLen) := by have := HZ.out; have h3 := KL2.out; rw [List.nil_append, List.length_take, List.length_drop]; exact ⟨show (min k x.plan.length + (x.plan.length - (k + 1))) * 32 ≤ _ by omega, by unfold maxLen; omega⟩
          have HBz : Hid (b0 ≤ wz.heap.size) := by
            have h1 := HB.out.size
            rw [hgb] at h1
            have h2 := J6.out.size
            show _ ≤ _
            omega
          clear hab hlx h2
          obtain ⟨PL, hPL⟩ : ∃ PL, PL = x.plan.eraseIdx k := ⟨_, rfl⟩
          have EP : Hid (x.plan.take k ++ x.plan.drop (k + 1) = PL) := by rw [hPL]; exact erase_td _ _
          rw [← hPL] at HY
          clear hPL
          simp only [Act.put, List.setIfInBounds_toArray, List.set_cons_succ, List.set_cons_zero]
          go_cut [] from 39 to 51 (fun wx => ∃ v9, Hid (LXK KFr K2 wx v9 PL ∧ wx.heap[b0]? = some (.cells #[.slice ao S.length cs, .slice al x.loose.length cl, .int .i64 (x.made : Int), v9, .bool x.dead] 30 (0, 0)) ∧ Fr K2 wz wx ∧ Below b0 wz wx ∧ wx.heap[b0 + 1]? = some (.cells (dcs (.slice none 0 0) (.slice none 0 0) 0 (.slice none 0 0) false) 30 (0, 0))))
          case first =>
            refine wp_region_held_drew (S := fun _ => True) (by kernel_rfl) trivial (fun hH => ?_)
            refine wpAnyH_take (i := 1) (v := .pointer (some ⟨b0, 3, none⟩)) rfl (by kernel_rfl) (by kernel_rfl) (by kernel_rfl) (fun _ _ _ h => h) (.inl ⟨by rfl, fun W _ => by go_simp⟩) hH ?_
            change wpAnyH _ _ _ _ _ _ _ (Act.put _ (some 40) _) _
            simp only [Act.put, List.setIfInBounds_toArray, List.set_cons_zero, List.set_cons_succ]
            refine wpAnyH_take (i := 3) (v := .int .i64 (k : Int)) rfl (by kernel_rfl) (by kernel_rfl) (by kernel_rfl) (fun _ _ _ h => h) (yl_move (by rfl) _ (by rfl) _ (by rfl)) hH ?_
            change wpAnyH _ _ _ _ _ _ _ (Act.put _ (some 42) _) _
            simp only [Act.put, List.setIfInBounds_toArray, List.set_cons_zero, List.set_cons_succ]
            refine wpAnyH_take (i := 6) (v := .pointer (some ⟨b0, 3, none⟩)) rfl (by kernel_rfl) (by kernel_rfl) (by kernel_rfl) (fun _ _ _ h => h) (.inl ⟨by rfl, fun W _ => by go_simp⟩) hH ?_
            change wpAnyH _ _ _ _ _ _ _ (Act.put _ (some 45) _) _
            simp only [Act.put, List.setIfInBounds_toArray, List.set_cons_zero, List.set_cons_succ]
            refine wpAnyH_take (i := 8) (v := .int .i64 (k : Int)) rfl (by kernel_rfl) (by kernel_rfl) (by kernel_rfl) (fun _ _ _ h => h) (yl_move (by rfl) _ (by rfl) _ (by rfl)) hH ?_
            change wpAnyH _ _ _ _ _ _ _ (Act.put _ (some 47) _) _
            simp only [Act.put, List.setIfInBounds_toArray, List.set_cons_zero, List.set_cons_succ]
            refine wpAnyH_take (i := 9) (v := .int .i64 ((k : Int) + 1)) rfl (by kernel_rfl) (by kernel_rfl) (by kernel_rfl) (fun _ _ _ h => h) (.inl ⟨by rfl, fun W _ => by go_simp⟩) hH ?_
            change wpAnyH _ _ _ _ _ _ _ (Act.put _ (some 48) _) _
            simp only [Act.put, List.setIfInBounds_toArray, List.set_cons_zero, List.set_cons_succ]
            have BD := hide (Below.refl wz.heap.size wz).drew
            generalize wz.drew = wd at *
            refine wpAnyH_ready (rs := [0, 2, 7]) (by kernel_rfl) (by simp) (AllReadyH.cons rfl (fun K1 hK1 => ?_) (AllReadyH.cons rfl (fun K1 hK1 => ?_) (AllReadyH.cons rfl (fun K1 hK1 => ?_) AllReadyH.nil)))
            · refine KFr.stepBs0 (by rfl) (by rfl) (bs0KFr _) ?_
              have J1 := hide (Lw.empty (E := KFr) (w0 := wz) BD.out)
              generalize wd.alloc (.cells #[] KFr.e) = w1_a at *
              obtain ⟨v1, hv1⟩ : ∃ v1, v1 = (Value.slice (some ⟨wd.heap.size, 0, none⟩) 0 0) := ⟨_, rfl⟩
              rw [← hv1] at J1 ⊢
              clear hv1
              refine hK1.out _ _ trivial (fun hH => ?_)
              clear hK1
              change wpAnyH _ _ _ _ _ _ _ (Act.put _ (some 39) _) _
              simp only [Act.put, List.setIfInBounds_toArray, List.set_cons_zero, List.set_cons_succ]
              refine wpAnyH_ready (rs := [2, 7]) (by kernel_rfl) (by simp) (AllReadyH.cons rfl (fun K1 hK1 => ?_) (AllReadyH.cons rfl (fun K1 hK1 => ?_) AllReadyH.nil))
              · have cL := (FRR.out _ J1.out.bel).2.1
                go_simp
                refine hK1.out _ _ trivial (fun hH => ?_)
                clear hK1 cL
                refine wpAnyH_take (i := 4) (v := .slice (some ⟨g, off, none⟩) k cp) rfl (by kernel_rfl) (by kernel_rfl) (by kernel_rfl) (fun _ _ _ h => h) (yl_slice (by rfl) _ _ _ (by rfl) _ _ (by rfl) _ _ (by rfl) (by rfl) (fun W => KFr.cutF (some ⟨g, off, none⟩) x.plan.length cp k KL.out HCP.out W)) hH ?_
                change wpAnyH _ _ _ _ _ _ _ (Act.put _ (some 43) _) _
                simp only [Act.put, List.setIfInBounds_toArray, List.set_cons_zero, List.set_cons_succ]
                refine wpAnyH_ready (rs := [5, 7]) (by kernel_rfl) (by simp) (AllReadyH.cons rfl (fun K1 hK1 => ?_) (AllReadyH.cons rfl (fun K1 hK1 => ?_) AllReadyH.nil))
                · refine KFr.stepAppL (by rfl) _ _ (by rfl) v1 _ (by rfl) J1.out.ox (.slice (some ⟨g, off, none⟩) k cp) (x.plan.take k) (by rfl) (LX.takeL KFr (LP.out.below J1.out.bel) KL.out) ZA.out.1 ZA.out.2 ?_
                  intro v3 w3_acf o3 n3
                  have J3 := hide (J1.out.app o3 n3)
                  clear o3 n3
                  refine hK1.out _ _ trivial (fun hH => ?_)
                  clear hK1
                  change wpAnyH _ _ _ _ _ _ _ (Act.put _ (some 44) _) _
                  simp only [Act.put, List.setIfInBounds_toArray, List.set_cons_zero, List.set_cons_succ]
                  refine wpAnyH_ready (rs := [7]) (by kernel_rfl) (by simp) (AllReadyH.cons rfl (fun K1 hK1 => ?_) AllReadyH.nil)
                  have cL := (FRR.out _ J3.out.bel).2.1
                  go_simp
                  refine hK1.out _ _ trivial (fun hH => ?_)
                  clear hK1 cL
                  refine wpAnyH_take (i := 10) (v := .slice ab (x.plan.length - (k + 1)) (cp - (k + 1))) rfl (by kernel_rfl) (by kernel_rfl) (by kernel_rfl) (fun _ _ _ h => h) (yl_slice (by rfl) _ _ _ (by rfl) _ _ (by rfl) _ _ (by rfl) (by rfl) (fun W => HCB.out W)) hH ?_
                  change wpAnyH _ _ _ _ _ _ _ (Act.put _ (some 49) _) _
                  simp only [Act.put, List.setIfInBounds_toArray, List.set_cons_zero, List.set_cons_succ]
                  refine wpAnyH_ready (rs := [11]) (by kernel_rfl) (by simp) (AllReadyH.cons rfl (fun K1 hK1 => ?_) AllReadyH.nil)
                  refine KFr.stepAppL (by rfl) _ _ (by rfl) v3 _ (by rfl) J3.out.ox (.slice ab (x.plan.length - (k + 1)) (cp - (k + 1))) (x.plan.drop (k + 1)) (by rfl) (HLX.out _ _ (LP.out.below J3.out.bel)) ZB.out.1 ZB.out.2 ?_
                  intro v5 w5_acfhl o5 n5
                  have J5 := hide (J3.out.app o5 n5)
                  clear o5 n5
                  rw [List.nil_append] at J5
                  refine hK1.out _ _ trivial (fun hH => ?_)
                  clear hK1
                  change wpAnyH _ _ _ _ _ _ _ (Act.put _ (some 50) _) _
                  simp only [Act.put, List.setIfInBounds_toArray, List.set_cons_zero, List.set_cons_succ]
                  refine wpAnyH_take (i := 12) (v := .pointer (some ⟨b0, 3, none⟩)) rfl (by kernel_rfl) (by kernel_rfl) (by kernel_rfl) (fun _ _ _ h => h) (.inl ⟨by rfl, fun W _ => by go_simp⟩) hH ?_
                  change wpAnyH _ _ _ _ _ _ _ (Act.put _ (some 51) _) _
                  simp only [Act.put, List.setIfInBounds_toArray, List.set_cons_zero, List.set_cons_succ]
                  refine wpAnyH_ready (rs := [13]) (by kernel_rfl) (by simp) (AllReadyH.cons rfl (fun K1 hK1 => ?_) AllReadyH.nil)
                  rw [EP.out] at J5
                  obtain ⟨a9, c9, e9⟩ := J5.out.ox.form
                  subst e9
                  have cS := (FRR.out _ J5.out.bel).2.1
                  have fS := frozen_of_row _ _ 3 _ _ (FRR.out _ J5.out.bel).1
                  go_simp
                  refine hK1.out _ _ trivial (fun hH => ?_)
                  clear hK1
                  refine wpAnyH_done (by kernel_rfl) ?_ _
                  go_wp2_with fail
                  go_meet
                  have FW := Fr.setCell (S := K2) w5_acfhl (p := ⟨b0, 3, none⟩) (HKo.out b0 (Nat.le_refl _) (by omega)) (.slice a9 PL.length c9)
                  exact ⟨_, (J5.out.lxk HKz.out).write FW, heap_setCell_same w5_acfhl b0 3 _ _ _ (FRR.out _ J5.out.bel).1, (Fr.of_below J5.out.bel).trans' FW, (J5.out.bel.mono HBz.out).setCell (Nat.le_refl _) _, (Below.heap_setCell _ _ _ _ (show b0 + 1 ≠ b0 by omega)).trans (FRR.out _ J5.out.bel).2.2⟩
                · have cL := (FRR.out _ J1.out.bel).2.1
                  go_simp
                  refine hK1.out _ _ trivial (fun hH => ?_)
                  clear hK1 cL
                  refine wpAnyH_take (i := 10) (v := .slice ab (x.plan.length - (k + 1)) (cp - (k + 1))) rfl (by kernel_rfl) (by kernel_rfl) (by kernel_rfl) (fun _ _ _ h => h) (yl_slice (by rfl) _ _ _ (by rfl) _ _ (by rfl) _ _ (by rfl) (by rfl) (fun W => HCB.out W)) hH ?_
                  change wpAnyH _ _ _ _ _ _ _ (Act.put _ (some 49) _) _
                  simp only [Act.put, List.setIfInBounds_toArray, List.set_cons_zero, List.set_cons_succ]
                  refine wpAnyH_ready (rs := [5]) (by kernel_rfl) (by simp) (AllReadyH.cons rfl (fun K1 hK1 => ?_) AllReadyH.nil)
                  refine KFr.stepAppL (by rfl) _ _ (by rfl) v1 _ (by rfl) J1.out.ox (.slice (some ⟨g, off, none⟩) k cp) (x.plan.take k) (by rfl) (LX.takeL KFr (LP.out.below J1.out.bel) KL.out) ZA.out.1 ZA.out.2 ?_
                  intro v4 w4_achf o4 n4
                  have J4 := hide (J1.out.app o4 n4)
                  clear o4 n4
                  refine hK1.out _ _ trivial (fun hH => ?_)
                  clear hK1
                  change wpAnyH _ _ _ _ _ _ _ (Act.put _ (some 44) _) _
                  simp only [Act.put, List.setIfInBounds_toArray, List.set_cons_zero, List.set_cons_succ]
                  refine wpAnyH_ready (rs := [11]) (by kernel_rfl) (by simp) (AllReadyH.cons rfl (fun K1 hK1 => ?_) AllReadyH.nil)
                  refine KFr.stepAppL (by rfl) _ _ (by rfl) v4 _ (by rfl) J4.out.ox (.slice ab (x.plan.length - (k + 1)) (cp - (k + 1))) (x.plan.drop (k + 1)) (by rfl) (HLX.out _ _ (LP.out.below J4.out.bel)) ZB.out.1 ZB.out.2 ?_
                  intro v5 w5_acfhl o5 n5
                  have J5 := hide (J4.out.app o5 n5)
                  clear o5 n5
                  rw [List.nil_append] at J5
                  refine hK1.out _ _ trivial (fun hH => ?_)
                  clear hK1
                  change wpAnyH _ _ _ _ _ _ _ (Act.put _ (some 50) _) _
                  simp only [Act.put, List.setIfInBounds_toArray, List.set_cons_zero, List.set_cons_succ]
                  refine wpAnyH_take (i := 12) (v := .pointer (some ⟨b0, 3, none⟩)) rfl (by kernel_rfl) (by kernel_rfl) (by kernel_rfl) (fun _ _ _ h => h) (.inl ⟨by rfl, fun W _ => by go_simp⟩) hH ?_
                  change wpAnyH _ _ _ _ _ _ _ (Act.put _ (some 51) _) _
                  simp only [Act.put, List.setIfInBounds_toArray, List.set_cons_zero, List.set_cons_succ]
                  refine wpAnyH_ready (rs := [13]) (by kernel_rfl) (by simp) (AllReadyH.cons rfl (fun K1 hK1 => ?_) AllReadyH.nil)
                  rw [EP.out] at J5
                  obtain ⟨a9, c9, e9⟩ := J5.out.ox.form
                  subst e9
                  have cS := (FRR.out _ J5.out.bel).2.1
                  have fS := frozen_of_row _ _ 3 _ _ (FRR.out _ J5.out.bel).1
                  go_simp
                  refine hK1.out _ _ trivial (fun hH => ?_)
                  clear hK1
                  refine wpAnyH_done (by kernel_rfl) ?_ _
                  go_wp2_with fail
                  go_meet
                  have FW := Fr.setCell (S := K2) w5_acfhl (p := ⟨b0, 3, none⟩) (HKo.out b0 (Nat.le_refl _) (by omega)) (.slice a9 PL.length c9)
                  exact ⟨_, (J5.out.lxk HKz.out).write FW, heap_setCell_same w5_acfhl b0 3 _ _ _ (FRR.out _ J5.out.bel).1, (Fr.of_below J5.out.bel).trans' FW, (J5.out.bel.mono HBz.out).setCell (Nat.le_refl _) _, (Below.heap_setCell _ _ _ _ (show b0 + 1 ≠ b0 by omega)).trans (FRR.out _ J5.out.bel).2.2⟩
              · have cL := (FRR.out _ J1.out.bel).2.1
                go_simp
                refine hK1.out _ _ trivial (fun hH => ?_)
                clear hK1 cL
                refine wpAnyH_take (i := 10) (v := .slice ab (x.plan.length - (k + 1)) (cp - (k + 1))) rfl (by kernel_rfl) (by kernel_rfl) (by kernel_rfl) (fun _ _ _ h => h) (yl_slice (by rfl) _ _ _ (by rfl) _ _ (by rfl) _ _ (by rfl) (by rfl) (fun W => HCB.out W)) hH ?_
                change wpAnyH _ _ _ _ _ _ _ (Act.put _ (some 49) _) _
                simp only [Act.put, List.setIfInBounds_toArray, List.set_cons_zero, List.set_cons_succ]
                refine wpAnyH_ready (rs := [2]) (by kernel_rfl) (by simp) (AllReadyH.cons rfl (fun K1 hK1 => ?_) AllReadyH.nil)
                have cL := (FRR.out _ J1.out.bel).2.1
                go_simp
                refine hK1.out _ _ trivial (fun hH => ?_)
                clear hK1 cL
                refine wpAnyH_take (i := 4) (v := .slice (some ⟨g, off, none⟩) k cp) rfl (by kernel_rfl) (by kernel_rfl) (by kernel_rfl) (fun _ _ _ h => h) (yl_slice (by rfl) _ _ _ (by rfl) _ _ (by rfl) _ _ (by rfl) (by rfl) (fun W => KFr.cutF (some ⟨g, off, none⟩) x.plan.length cp k KL.out HCP.out W)) hH ?_
                change wpAnyH _ _ _ _ _ _ _ (Act.put _ (some 43) _) _
                simp only [Act.put, List.setIfInBounds_toArray, List.set_cons_zero, List.set_cons_succ]
                refine wpAnyH_ready (rs := [5]) (by kernel_rfl) (by simp) (AllReadyH.cons rfl (fun K1 hK1 => ?_) AllReadyH.nil)
                refine KFr.stepAppL (by rfl) _ _ (by rfl) v1 _ (by rfl) J1.out.ox (.slice (some ⟨g, off, none⟩) k cp) (x.plan.take k) (by rfl) (LX.takeL KFr (LP.out.below J1.out.bel) KL.out) ZA.out.1 ZA.out.2 ?_
                intro v4 w4_achf o4 n4
                have J4 := hide (J1.out.app o4 n4)
                clear o4 n4
                refine hK1.out _ _ trivial (fun hH => ?_)
                clear hK1
                change wpAnyH _ _ _ _ _ _ _ (Act.put _ (some 44) _) _
                simp only [Act.put, List.setIfInBounds_toArray, List.set_cons_zero, List.set_cons_succ]
                refine wpAnyH_ready (rs := [11]) (by kernel_rfl) (by simp) (AllReadyH.cons rfl (fun K1 hK1 => ?_) AllReadyH.nil)
                refine KFr.stepAppL (by rfl) _ _ (by rfl) v4 _ (by rfl) J4.out.ox (.slice ab (x.plan.length - (k + 1)) (cp - (k + 1))) (x.plan.drop (k + 1)) (by rfl) (HLX.out _ _ (LP.out.below J4.out.bel)) ZB.out.1 ZB.out.2 ?_
                intro v5 w5_acfhl o5 n5
                have J5 := hide (J4.out.app o5 n5)
                clear o5 n5
                rw [List.nil_append] at J5
                refine hK1.out _ _ trivial (fun hH => ?_)
                clear hK1
                change wpAnyH _ _ _ _ _ _ _ (Act.put _ (some 50) _) _
                simp only [Act.put, List.setIfInBounds_toArray, List.set_cons_zero, List.set_cons_succ]
                refine wpAnyH_take (i := 12) (v := .pointer (some ⟨b0, 3, none⟩)) rfl (by kernel_rfl) (by kernel_rfl) (by kernel_rfl) (fun _ _ _ h => h) (.inl ⟨by rfl, fun W _ => by go_simp⟩) hH ?_
                change wpAnyH _ _ _ _ _ _ _ (Act.put _ (some 51) _) _
                simp only [Act.put, List.setIfInBounds_toArray, List.set_cons_zero, List.set_cons_succ]
                refine wpAnyH_ready (rs := [13]) (by kernel_rfl) (by simp) (AllReadyH.cons rfl (fun K1 hK1 => ?_) AllReadyH.nil)
                rw [EP.out] at J5
                obtain ⟨a9, c9, e9⟩ := J5.out.ox.form
                subst e9
                have cS := (FRR.out _ J5.out.bel).2.1
                have fS := frozen_of_row _ _ 3 _ _ (FRR.out _ J5.out.bel).1
                go_simp
                refine hK1.out _ _ trivial (fun hH => ?_)
                clear hK1
                refine wpAnyH_done (by kernel_rfl) ?_ _
                go_wp2_with fail
                go_meet
                have FW := Fr.setCell (S := K2) w5_acfhl (p := ⟨b0, 3, none⟩) (HKo.out b0 (Nat.le_refl _) (by omega)) (.slice a9 PL.length c9)
                exact ⟨_, (J5.out.lxk HKz.out).write FW, heap_setCell_same w5_acfhl b0 3 _ _ _ (FRR.out _ J5.out.bel).1, (Fr.of_below J5.out.bel).trans' FW, (J5.out.bel.mono HBz.out).setCell (Nat.le_refl _) _, (Below.heap_setCell _ _ _ _ (show b0 + 1 ≠ b0 by omega)).trans (FRR.out _ J5.out.bel).2.2⟩
            · have cL := (FRR.out _ BD.out).2.1
              go_simp
              refine hK1.out _ _ trivial (fun hH => ?_)
              clear hK1 cL
              refine wpAnyH_take (i := 4) (v := .slice (some ⟨g, off, none⟩) k cp) rfl (by kernel_rfl) (by kernel_rfl) (by kernel_rfl) (fun _ _ _ h => h) (yl_slice (by rfl) _ _ _ (by rfl) _ _ (by rfl) _ _ (by rfl) (by rfl) (fun W => KFr.cutF (some ⟨g, off, none⟩) x.plan.length cp k KL.out HCP.out W)) hH ?_
              change wpAnyH _ _ _ _ _ _ _ (Act.put _ (some 43) _) _
              simp only [Act.put, List.setIfInBounds_toArray, List.set_cons_zero, List.set_cons_succ]
              refine wpAnyH_ready (rs := [0, 7]) (by kernel_rfl) (by simp) (AllReadyH.cons rfl (fun K1 hK1 => ?_) (AllReadyH.cons rfl (fun K1 hK1 => ?_) AllReadyH.nil))
              · refine KFr.stepBs0 (by rfl) (by rfl) (bs0KFr _) ?_
                have J2 := hide (Lw.empty (E := KFr) (w0 := wz) BD.out)
                generalize wd.alloc (.cells #[] KFr.e) = w2_ca at *
                obtain ⟨v2, hv2⟩ : ∃ v2, v2 = (Value.slice (some ⟨wd.heap.size, 0, none⟩) 0 0) := ⟨_, rfl⟩
                rw [← hv2] at J2 ⊢
                clear hv2
                refine hK1.out _ _ trivial (fun hH => ?_)
                clear hK1
                change wpAnyH _ _ _ _ _ _ _ (Act.put _ (some 39) _) _
                simp only [Act.put, List.setIfInBounds_toArray, List.set_cons_zero, List.set_cons_succ]
                refine wpAnyH_ready (rs := [5, 7]) (by kernel_rfl) (by simp) (AllReadyH.cons rfl (fun K1 hK1 => ?_) (AllReadyH.cons rfl (fun K1 hK1 => ?_) AllReadyH.nil))
                · refine KFr.stepAppL (by rfl) _ _ (by rfl) v2 _ (by rfl) J2.out.ox (.slice (some ⟨g, off, none⟩) k cp) (x.plan.take k) (by rfl) (LX.takeL KFr (LP.out.below J2.out.bel) KL.out) ZA.out.1 ZA.out.2 ?_
                  intro v3 w3_acf o3 n3
                  have J3 := hide (J2.out.app o3 n3)
                  clear o3 n3
                  refine hK1.out _ _ trivial (fun hH => ?_)
                  clear hK1
                  change wpAnyH _ _ _ _ _ _ _ (Act.put _ (some 44) _) _
                  simp only [Act.put, List.setIfInBounds_toArray, List.set_cons_zero, List.set_cons_succ]
                  refine wpAnyH_ready (rs := [7]) (by kernel_rfl) (by simp) (AllReadyH.cons rfl (fun K1 hK1 => ?_) AllReadyH.nil)
                  have cL := (FRR.out _ J3.out.bel).2.1
                  go_simp
                  refine hK1.out _ _ trivial (fun hH => ?_)
                  clear hK1 cL
                  refine wpAnyH_take (i := 10) (v := .slice ab (x.plan.length - (k + 1)) (cp - (k + 1))) rfl (by kernel_rfl) (by kernel_rfl) (by kernel_rfl) (fun _ _ _ h => h) (yl_slice (by rfl) _ _ _ (by rfl) _ _ (by rfl) _ _ (by rfl) (by rfl) (fun W => HCB.out W)) hH ?_
                  change wpAnyH _ _ _ _ _ _ _ (Act.put _ (some 49) _) _
                  simp only [Act.put, List.setIfInBounds_toArray, List.set_cons_zero, List.set_cons_succ]
                  refine wpAnyH_ready (rs := [11]) (by kernel_rfl) (by simp) (AllReadyH.cons rfl (fun K1 hK1 => ?_) AllReadyH.nil)
                  refine KFr.stepAppL (by rfl) _ _ (by rfl) v3 _ (by rfl) J3.out.ox (.slice ab (x.plan.length - (k + 1)) (cp - (k + 1))) (x.plan.drop (k + 1)) (by rfl) (HLX.out _ _ (LP.out.below J3.out.bel)) ZB.out.1 ZB.out.2 ?_
                  intro v5 w5_acfhl o5 n5
                  have J5 := hide (J3.out.app o5 n5)
                  clear o5 n5
                  rw [List.nil_append] at J5
                  refine hK1.out _ _ trivial (fun hH => ?_)
                  clear hK1
                  change wpAnyH _ _ _ _ _ _ _ (Act.put _ (some 50) _) _
                  simp only [Act.put, List.setIfInBounds_toArray, List.set_cons_zero, List.set_cons_succ]
                  refine wpAnyH_take (i := 12) (v := .pointer (some ⟨b0, 3, none⟩)) rfl (by kernel_rfl) (by kernel_rfl) (by kernel_rfl) (fun _ _ _ h => h) (.inl ⟨by rfl, fun W _ => by go_simp⟩) hH ?_
                  change wpAnyH _ _ _ _ _ _ _ (Act.put _ (some 51) _) _
                  simp only [Act.put, List.setIfInBounds_toArray, List.set_cons_zero, List.set_cons_succ]
                  refine wpAnyH_ready (rs := [13]) (by kernel_rfl) (by simp) (AllReadyH.cons rfl (fun K1 hK1 => ?_) AllReadyH.nil)
                  rw [EP.out] at J5
                  obtain ⟨a9, c9, e9⟩ := J5.out.ox.form
                  subst e9
                  have cS := (FRR.out _ J5.out.bel).2.1
                  have fS := frozen_of_row _ _ 3 _ _ (FRR.out _ J5.out.bel).1
                  go_simp
                  refine hK1.out _ _ trivial (fun hH => ?_)
                  clear hK1
                  refine wpAnyH_done (by kernel_rfl) ?_ _
                  go_wp2_with fail
                  go_meet
                  have FW := Fr.setCell (S := K2) w5_acfhl (p := ⟨b0, 3, none⟩) (HKo.out b0 (Nat.le_refl _) (by omega)) (.slice a9 PL.length c9)
                  exact ⟨_, (J5.out.lxk HKz.out).write FW, heap_setCell_same w5_acfhl b0 3 _ _ _ (FRR.out _ J5.out.bel).1, (Fr.of_below J5.out.bel).trans' FW, (J5.out.bel.mono HBz.out).setCell (Nat.le_refl _) _, (Below.heap_setCell _ _ _ _ (show b0 + 1 ≠ b0 by omega)).trans (FRR.out _ J5.out.bel).2.2⟩
                · have cL := (FRR.out _ J2.out.bel).2.1
                  go_simp
                  refine hK1.out _ _ trivial (fun hH => ?_)
                  clear hK1 cL
                  refine wpAnyH_take (i := 10) (v := .slice ab (x.plan.length - (k + 1)) (cp - (k + 1))) rfl (by kernel_rfl) (by kernel_rfl) (by kernel_rfl) (fun _ _ _ h => h) (yl_slice (by rfl) _ _ _ (by rfl) _ _ (by rfl) _ _ (by rfl) (by rfl) (fun W => HCB.out W)) hH ?_
                  change wpAnyH _ _ _ _ _ _ _ (Act.put _ (some 49) _) _
                  simp only [Act.put, List.setIfInBounds_toArray, List.set_cons_zero, List.set_cons_succ]
                  refine wpAnyH_ready (rs := [5]) (by kernel_rfl) (by simp) (AllReadyH.cons rfl (fun K1 hK1 => ?_) AllReadyH.nil)
                  refine KFr.stepAppL (by rfl) _ _ (by rfl) v2 _ (by rfl) J2.out.ox (.slice (some ⟨g, off, none⟩) k cp) (x.plan.take k) (by rfl) (LX.takeL KFr (LP.out.below J2.out.bel) KL.out) ZA.out.1 ZA.out.2 ?_
                  intro v4 w4_achf o4 n4
                  have J4 := hide (J2.out.app o4 n4)
                  clear o4 n4
                  refine hK1.out _ _ trivial (fun hH => ?_)
                  clear hK1
                  change wpAnyH _ _ _ _ _ _ _ (Act.put _ (some 44) _) _
                  simp only [Act.put, List.setIfInBounds_toArray, List.set_cons_zero, List.set_cons_succ]
                  refine wpAnyH_ready (rs := [11]) (by kernel_rfl) (by simp) (AllReadyH.cons rfl (fun K1 hK1 => ?_) AllReadyH.nil)
                  refine KFr.stepAppL (by rfl) _ _ (by rfl) v4 _ (by rfl) J4.out.ox (.slice ab (x.plan.length - (k + 1)) (cp - (k + 1))) (x.plan.drop (k + 1)) (by rfl) (HLX.out _ _ (LP.out.below J4.out.bel)) ZB.out.1 ZB.out.2 ?_
                  intro v5 w5_acfhl o5 n5
                  have J5 := hide (J4.out.app o5 n5)
                  clear o5 n5
                  rw [List.nil_append] at J5
                  refine hK1.out _ _ trivial (fun hH => ?_)
                  clear hK1
                  change wpAnyH _ _ _ _ _ _ _ (Act.put _ (some 50) _) _
                  simp only [Act.put, List.setIfInBounds_toArray, List.set_cons_zero, List.set_cons_succ]
                  refine wpAnyH_take (i := 12) (v := .pointer (some ⟨b0, 3, none⟩)) rfl (by kernel_rfl) (by kernel_rfl) (by kernel_rfl) (fun _ _ _ h => h) (.inl ⟨by rfl, fun W _ => by go_simp⟩) hH ?_
                  change wpAnyH _ _ _ _ _ _ _ (Act.put _ (some 51) _) _
                  simp only [Act.put, List.setIfInBounds_toArray, List.set_cons_zero, List.set_cons_succ]
                  refine wpAnyH_ready (rs := [13]) (by kernel_rfl) (by simp) (AllReadyH.cons rfl (fun K1 hK1 => ?_) AllReadyH.nil)
                  rw [EP.out] at J5
                  obtain ⟨a9, c9, e9⟩ := J5.out.ox.form
                  subst e9
                  have cS := (FRR.out _ J5.out.bel).2.1
                  have fS := frozen_of_row _ _ 3 _ _ (FRR.out _ J5.out.bel).1
                  go_simp
                  refine hK1.out _ _ trivial (fun hH => ?_)
                  clear hK1
                  refine wpAnyH_done (by kernel_rfl) ?_ _
                  go_wp2_with fail
                  go_meet
                  have FW := Fr.setCell (S := K2) w5_acfhl (p := ⟨b0, 3, none⟩) (HKo.out b0 (Nat.le_refl _) (by omega)) (.slice a9 PL.length c9)
                  exact ⟨_, (J5.out.lxk HKz.out).write FW, heap_setCell_same w5_acfhl b0 3 _ _ _ (FRR.out _ J5.out.bel).1, (Fr.of_below J5.out.bel).trans' FW, (J5.out.bel.mono HBz.out).setCell (Nat.le_refl _) _, (Below.heap_setCell _ _ _ _ (show b0 + 1 ≠ b0 by omega)).trans (FRR.out _ J5.out.bel).2.2⟩
              · have cL := (FRR.out _ BD.out).2.1
                go_simp
                refine hK1.out _ _ trivial (fun hH => ?_)
                clear hK1 cL
                refine wpAnyH_take (i := 10) (v := .slice ab (x.plan.length - (k + 1)) (cp - (k + 1))) rfl (by kernel_rfl) (by kernel_rfl) (by kernel_rfl) (fun _ _ _ h => h) (yl_slice (by rfl) _ _ _ (by rfl) _ _ (by rfl) _ _ (by rfl) (by rfl) (fun W => HCB.out W)) hH ?_
                change wpAnyH _ _ _ _ _ _ _ (Act.put _ (some 49) _) _
                simp only [Act.put, List.setIfInBounds_toArray, List.set_cons_zero, List.set_cons_succ]
                refine wpAnyH_ready (rs := [0]) (by kernel_rfl) (by simp) (AllReadyH.cons rfl (fun K1 hK1 => ?_) AllReadyH.nil)
                refine KFr.stepBs0 (by rfl) (by rfl) (bs0KFr _) ?_
                have J3 := hide (Lw.empty (E := KFr) (w0 := wz) BD.out)
                generalize wd.alloc (.cells #[] KFr.e) = w3_cha at *
                obtain ⟨v3, hv3⟩ : ∃ v3, v3 = (Value.slice (some ⟨wd.heap.size, 0, none⟩) 0 0) := ⟨_, rfl⟩
                rw [← hv3] at J3 ⊢
                clear hv3
                refine hK1.out _ _ trivial (fun hH => ?_)
                clear hK1
                change wpAnyH _ _ _ _ _ _ _ (Act.put _ (some 39) _) _
                simp only [Act.put, List.setIfInBounds_toArray, List.set_cons_zero, List.set_cons_succ]
                refine wpAnyH_ready (rs := [5]) (by kernel_rfl) (by simp) (AllReadyH.cons rfl (fun K1 hK1 => ?_) AllReadyH.nil)
                refine KFr.stepAppL (by rfl) _ _ (by rfl) v3 _ (by rfl) J3.out.ox (.slice (some ⟨g, off, none⟩) k cp) (x.plan.take k) (by rfl) (LX.takeL KFr (LP.out.below J3.out.bel) KL.out) ZA.out.1 ZA.out.2 ?_
                intro v4 w4_achf o4 n4
                have J4 := hide (J3.out.app o4 n4)
                clear o4 n4
                refine hK1.out _ _ trivial (fun hH => ?_)
                clear hK1
                change wpAnyH _ _ _ _ _ _ _ (Act.put _ (some 44) _) _
                simp only [Act.put, List.setIfInBounds_toArray, List.set_cons_zero, List.set_cons_succ]
                refine wpAnyH_ready (rs := [11]) (by kernel_rfl) (by simp) (AllReadyH.cons rfl (fun K1 hK1 => ?_) AllReadyH.nil)
                refine KFr.stepAppL (by rfl) _ _ (by rfl) v4 _ (by rfl) J4.out.ox (.slice ab (x.plan.length - (k + 1)) (cp - (k + 1))) (x.plan.drop (k + 1)) (by rfl) (HLX.out _ _ (LP.out.below J4.out.bel)) ZB.out.1 ZB.out.2 ?_
                intro v5 w5_acfhl o5 n5
                have J5 := hide (J4.out.app o5 n5)
                clear o5 n5
                rw [List.nil_append] at J5
                refine hK1.out _ _ trivial (fun hH => ?_)
                clear hK1
                change wpAnyH _ _ _ _ _ _ _ (Act.put _ (some 50) _) _
                simp only [Act.put, List.setIfInBounds_toArray, List.set_cons_zero, List.set_cons_succ]
                refine wpAnyH_take (i := 12) (v := .pointer (some ⟨b0, 3, none⟩)) rfl (by kernel_rfl) (by kernel_rfl) (by kernel_rfl) (fun _ _ _ h => h) (.inl ⟨by rfl, fun W _ => by go_simp⟩) hH ?_
                change wpAnyH _ _ _ _ _ _ _ (Act.put _ (some 51) _) _
                simp only [Act.put, List.setIfInBounds_toArray, List.set_cons_zero, List.set_cons_succ]
                refine wpAnyH_ready (rs := [13]) (by kernel_rfl) (by simp) (AllReadyH.cons rfl (fun K1 hK1 => ?_) AllReadyH.nil)
                rw [EP.out] at J5
                obtain ⟨a9, c9, e9⟩ := J5.out.ox.form
                subst e9
                have cS := (FRR.out _ J5.out.bel).2.1
                have fS := frozen_of_row _ _ 3 _ _ (FRR.out _ J5.out.bel).1
                go_simp
                refine hK1.out _ _ trivial (fun hH => ?_)
                clear hK1
                refine wpAnyH_done (by kernel_rfl) ?_ _
                go_wp2_with fail
                go_meet
                have FW := Fr.setCell (S := K2) w5_acfhl (p := ⟨b0, 3, none⟩) (HKo.out b0 (Nat.le_refl _) (by omega)) (.slice a9 PL.length c9)
                exact ⟨_, (J5.out.lxk HKz.out).write FW, heap_setCell_same w5_acfhl b0 3 _ _ _ (FRR.out _ J5.out.bel).1, (Fr.of_below J5.out.bel).trans' FW, (J5.out.bel.mono HBz.out).setCell (Nat.le_refl _) _, (Below.heap_setCell _ _ _ _ (show b0 + 1 ≠ b0 by omega)).trans (FRR.out _ J5.out.bel).2.2⟩
            · have cL := (FRR.out _ BD.out).2.1
              go_simp
              refine hK1.out _ _ trivial (fun hH => ?_)
              clear hK1 cL
              refine wpAnyH_take (i := 10) (v := .slice ab (x.plan.length - (k + 1)) (cp - (k + 1))) rfl (by kernel_rfl) (by kernel_rfl) (by kernel_rfl) (fun _ _ _ h => h) (yl_slice (by rfl) _ _ _ (by rfl) _ _ (by rfl) _ _ (by rfl) (by rfl) (fun W => HCB.out W)) hH ?_
              change wpAnyH _ _ _ _ _ _ _ (Act.put _ (some 49) _) _
              simp only [Act.put, List.setIfInBounds_toArray, List.set_cons_zero, List.set_cons_succ]
              refine wpAnyH_ready (rs := [0, 2]) (by kernel_rfl) (by simp) (AllReadyH.cons rfl (fun K1 hK1 => ?_) (AllReadyH.cons rfl (fun K1 hK1 => ?_) AllReadyH.nil))
              · refine KFr.stepBs0 (by rfl) (by rfl) (bs0KFr _) ?_
                have J2 := hide (Lw.empty (E := KFr) (w0 := wz) BD.out)
                generalize wd.alloc (.cells #[] KFr.e) = w2_ha at *
                obtain ⟨v2, hv2⟩ : ∃ v2, v2 = (Value.slice (some ⟨wd.heap.size, 0, none⟩) 0 0) := ⟨_, rfl⟩
                rw [← hv2] at J2 ⊢
                clear hv2
                refine hK1.out _ _ trivial (fun hH => ?_)
                clear hK1
                change wpAnyH _ _ _ _ _ _ _ (Act.put _ (some 39) _) _
                simp only [Act.put, List.setIfInBounds_toArray, List.set_cons_zero, List.set_cons_succ]
                refine wpAnyH_ready (rs := [2]) (by kernel_rfl) (by simp) (AllReadyH.cons rfl (fun K1 hK1 => ?_) AllReadyH.nil)
                have cL := (FRR.out _ J2.out.bel).2.1
                go_simp
                refine hK1.out _ _ trivial (fun hH => ?_)
                clear hK1 cL
                refine wpAnyH_take (i := 4) (v := .slice (some ⟨g, off, none⟩) k cp) rfl (by kernel_rfl) (by kernel_rfl) (by kernel_rfl) (fun _ _ _ h => h) (yl_slice (by rfl) _ _ _ (by rfl) _ _ (by rfl) _ _ (by rfl) (by rfl) (fun W => KFr.cutF (some ⟨g, off, none⟩) x.plan.length cp k KL.out HCP.out W)) hH ?_
                change wpAnyH _ _ _ _ _ _ _ (Act.put _ (some 43) _) _
                simp only [Act.put, List.setIfInBounds_toArray, List.set_cons_zero, List.set_cons_succ]
                refine wpAnyH_ready (rs := [5]) (by kernel_rfl) (by simp) (AllReadyH.cons rfl (fun K1 hK1 => ?_) AllReadyH.nil)
                refine KFr.stepAppL (by rfl) _ _ (by rfl) v2 _ (by rfl) J2.out.ox (.slice (some ⟨g, off, none⟩) k cp) (x.plan.take k) (by rfl) (LX.takeL KFr (LP.out.below J2.out.bel) KL.out) ZA.out.1 ZA.out.2 ?_
                intro v4 w4_achf o4 n4
                have J4 := hide (J2.out.app o4 n4)
                clear o4 n4
                refine hK1.out _ _ trivial (fun hH => ?_)
                clear hK1
                change wpAnyH _ _ _ _ _ _ _ (Act.put _ (some 44) _) _
                simp only [Act.put, List.setIfInBounds_toArray, List.set_cons_zero, List.set_cons_succ]
                refine wpAnyH_ready (rs := [11]) (by kernel_rfl) (by simp) (AllReadyH.cons rfl (fun K1 hK1 => ?_) AllReadyH.nil)
                refine KFr.stepAppL (by rfl) _ _ (by rfl) v4 _ (by rfl) J4.out.ox (.slice ab (x.plan.length - (k + 1)) (cp - (k + 1))) (x.plan.drop (k + 1)) (by rfl) (HLX.out _ _ (LP.out.below J4.out.bel)) ZB.out.1 ZB.out.2 ?_
                intro v5 w5_acfhl o5 n5
                have J5 := hide (J4.out.app o5 n5)
                clear o5 n5
                rw [List.nil_append] at J5
                refine hK1.out _ _ trivial (fun hH => ?_)
                clear hK1
                change wpAnyH _ _ _ _ _ _ _ (Act.put _ (some 50) _) _
                simp only [Act.put, List.setIfInBounds_toArray, List.set_cons_zero, List.set_cons_succ]
                refine wpAnyH_take (i := 12) (v := .pointer (some ⟨b0, 3, none⟩)) rfl (by kernel_rfl) (by kernel_rfl) (by kernel_rfl) (fun _ _ _ h => h) (.inl ⟨by rfl, fun W _ => by go_simp⟩) hH ?_
                change wpAnyH _ _ _ _ _ _ _ (Act.put _ (some 51) _) _
                simp only [Act.put, List.setIfInBounds_toArray, List.set_cons_zero, List.set_cons_succ]
                refine wpAnyH_ready (rs := [13]) (by kernel_rfl) (by simp) (AllReadyH.cons rfl (fun K1 hK1 => ?_) AllReadyH.nil)
                rw [EP.out] at J5
                obtain ⟨a9, c9, e9⟩ := J5.out.ox.form
                subst e9
                have cS := (FRR.out _ J5.out.bel).2.1
                have fS := frozen_of_row _ _ 3 _ _ (FRR.out _ J5.out.bel).1
                go_simp
                refine hK1.out _ _ trivial (fun hH => ?_)
                clear hK1
                refine wpAnyH_done (by kernel_rfl) ?_ _
                go_wp2_with fail
                go_meet
                have FW := Fr.setCell (S := K2) w5_acfhl (p := ⟨b0, 3, none⟩) (HKo.out b0 (Nat.le_refl _) (by omega)) (.slice a9 PL.length c9)
                exact ⟨_, (J5.out.lxk HKz.out).write FW, heap_setCell_same w5_acfhl b0 3 _ _ _ (FRR.out _ J5.out.bel).1, (Fr.of_below J5.out.bel).trans' FW, (J5.out.bel.mono HBz.out).setCell (Nat.le_refl _) _, (Below.heap_setCell _ _ _ _ (show b0 + 1 ≠ b0 by omega)).trans (FRR.out _ J5.out.bel).2.2⟩
              · have cL := (FRR.out _ BD.out).2.1
                go_simp
                refine hK1.out _ _ trivial (fun hH => ?_)
                clear hK1 cL
                refine wpAnyH_take (i := 4) (v := .slice (some ⟨g, off, none⟩) k cp) rfl (by kernel_rfl) (by kernel_rfl) (by kernel_rfl) (fun _ _ _ h => h) (yl_slice (by rfl) _ _ _ (by rfl) _ _ (by rfl) _ _ (by rfl) (by rfl) (fun W => KFr.cutF (some ⟨g, off, none⟩) x.plan.length cp k KL.out HCP.out W)) hH ?_
                change wpAnyH _ _ _ _ _ _ _ (Act.put _ (some 43) _) _
                simp only [Act.put, List.setIfInBounds_toArray, List.set_cons_zero, List.set_cons_succ]
                refine wpAnyH_ready (rs := [0]) (by kernel_rfl) (by simp) (AllReadyH.cons rfl (fun K1 hK1 => ?_) AllReadyH.nil)
                refine KFr.stepBs0 (by rfl) (by rfl) (bs0KFr _) ?_
                have J3 := hide (Lw.empty (E := KFr) (w0 := wz) BD.out)
                generalize wd.alloc (.cells #[] KFr.e) = w3_cha at *
                obtain ⟨v3, hv3⟩ : ∃ v3, v3 = (Value.slice (some ⟨wd.heap.size, 0, none⟩) 0 0) := ⟨_, rfl⟩
                rw [← hv3] at J3 ⊢
                clear hv3
                refine hK1.out _ _ trivial (fun hH => ?_)
                clear hK1
                change wpAnyH _ _ _ _ _ _ _ (Act.put _ (some 39) _) _
                simp only [Act.put, List.setIfInBounds_toArray, List.set_cons_zero, List.set_cons_succ]
                refine wpAnyH_ready (rs := [5]) (by kernel_rfl) (by simp) (AllReadyH.cons rfl (fun K1 hK1 => ?_) AllReadyH.nil)
                refine KFr.stepAppL (by rfl) _ _ (by rfl) v3 _ (by rfl) J3.out.ox (.slice (some ⟨g, off, none⟩) k cp) (x.plan.take k) (by rfl) (LX.takeL KFr (LP.out.below J3.out.bel) KL.out) ZA.out.1 ZA.out.2 ?_
                intro v4 w4_achf o4 n4
                have J4 := hide (J3.out.app o4 n4)
                clear o4 n4
                refine hK1.out _ _ trivial (fun hH => ?_)
                clear hK1
                change wpAnyH _ _ _ _ _ _ _ (Act.put _ (some 44) _) _
                simp only [Act.put, List.setIfInBounds_toArray, List.set_cons_zero, List.set_cons_succ]
                refine wpAnyH_ready (rs := [11]) (by kernel_rfl) (by simp) (AllReadyH.cons rfl (fun K1 hK1 => ?_) AllReadyH.nil)
                refine KFr.stepAppL (by rfl) _ _ (by rfl) v4 _ (by rfl) J4.out.ox (.slice ab (x.plan.length - (k + 1)) (cp - (k + 1))) (x.plan.drop (k + 1)) (by rfl) (HLX.out _ _ (LP.out.below J4.out.bel)) ZB.out.1 ZB.out.2 ?_
                intro v5 w5_acfhl o5 n5
                have J5 := hide (J4.out.app o5 n5)
                clear o5 n5
                rw [List.nil_append] at J5
                refine hK1.out _ _ trivial (fun hH => ?_)
                clear hK1
                change wpAnyH _ _ _ _ _ _ _ (Act.put _ (some 50) _) _
                simp only [Act.put, List.setIfInBounds_toArray, List.set_cons_zero, List.set_cons_succ]
                refine wpAnyH_take (i := 12) (v := .pointer (some ⟨b0, 3, none⟩)) rfl (by kernel_rfl) (by kernel_rfl) (by kernel_rfl) (fun _ _ _ h => h) (.inl ⟨by rfl, fun W _ => by go_simp⟩) hH ?_
                change wpAnyH _ _ _ _ _ _ _ (Act.put _ (some 51) _) _
                simp only [Act.put, List.setIfInBounds_toArray, List.set_cons_zero, List.set_cons_succ]
                refine wpAnyH_ready (rs := [13]) (by kernel_rfl) (by simp) (AllReadyH.cons rfl (fun K1 hK1 => ?_) AllReadyH.nil)
                rw [EP.out] at J5
                obtain ⟨a9, c9, e9⟩ := J5.out.ox.form
                subst e9
                have cS := (FRR.out _ J5.out.bel).2.1
                have fS := frozen_of_row _ _ 3 _ _ (FRR.out _ J5.out.bel).1
                go_simp
                refine hK1.out _ _ trivial (fun hH => ?_)
                clear hK1
                refine wpAnyH_done (by kernel_rfl) ?_ _
                go_wp2_with fail
                go_meet
                have FW := Fr.setCell (S := K2) w5_acfhl (p := ⟨b0, 3, none⟩) (HKo.out b0 (Nat.le_refl _) (by omega)) (.slice a9 PL.length c9)
                exact ⟨_, (J5.out.lxk HKz.out).write FW, heap_setCell_same w5_acfhl b0 3 _ _ _ (FRR.out _ J5.out.bel).1, (Fr.of_below J5.out.bel).trans' FW, (J5.out.bel.mono HBz.out).setCell (Nat.le_refl _) _, (Below.heap_setCell _ _ _ _ (show b0 + 1 ≠ b0 by omega)).trans (FRR.out _ J5.out.bel).2.2⟩
          obtain ⟨v9, HX⟩ := hcut
          obtain ⟨a9, c9, e9⟩ := HX.out.1.form
          subst e9
          have R9b : Hid (wc.heap[g9]? = some (.cells (flv f).toArray 93 (0, 0))) := by
            refine (HX.out.2.2.1.block _ (lt_heap R9.out) (fun c => ?_)).trans R9.out
            have := HK.out _ c
            have := L9.out
            omega
          have RB9 := hide HX.out.2.2.2.2
          have RA9 := hide HX.out.2.1
          have k1 : wc.cell? ⟨g9, 1, none⟩ = some (.int .i64 f.keep) := by rw [cell_of_row _ _ _ _ _ _ R9b.out]; rfl
          have k2 : wc.cell? ⟨g9, 2, none⟩ = some (.int .i64 f.torn) := by rw [cell_of_row _ _ _ _ _ _ R9b.out]; rfl
          have CR : Hid (isD K2 wc (.agg #[.slice ao S.length cs, .slice al x.loose.length cl, .int .i64 (x.made : Int), .slice a9 PL.length c9, .bool x.dead]) { x with plan := PL }) := ⟨_, _, _, S, rfl, (H1.out.sure.below J6.out).write HX.out.2.2.1, H1.out.rep, (H1.out.loose.below J6.out).write HX.out.2.2.1, HX.out.1⟩
          have VX : Hid (Vd { x with plan := PL }) := ⟨HVd.out.ok, HVd.out.now, HVd.out.many, HVd.out.made⟩
          have HKc : Hid (∀ g, K2 g → g < wc.heap.size) := fun q hq => Nat.lt_of_lt_of_le (HKz.out q hq) HX.out.2.2.1.size
          have EC : Hid (crC { x with plan := PL } f.keep f.torn = flC { x with plan := PL } f.keep f.torn) := by
            show _ = _
            unfold crC
            rw [if_neg (by simp [HDD.out])]
          have BW : Hid (Below w.heap.size w wc) := by
            have h1 := HB.out
            have h3 := HB.out.size
            rw [hgb] at h3 ⊢
            exact (h1.trans (J6.out.mono h3)).trans HX.out.2.2.2.1
          clear LP HCB HLX ZA ZB FRR HX
          go_wp2_with (first | ((with_reducible refine at_list ?_); first | refine wpList_loadA ADd rfl _ rfl b0 rfl _ rfl _ RA9.out ?_ | refine wpList_storeA ADd rfl _ _ rfl (b0 + 1) _ (by rfl) (by simp [Value.oneCell']) rfl rfl _ (by rfl) _ RB7.out ?_) | (go_at_call 20; refine (rcrash_any K2 { x with plan := PL } _ f.keep f.torn _ CR.out VX.out HKc.out KP.out.1 KP.out.2).mono ?_; rintro e W7 ⟨v7, rfl, d7, b7⟩; rw [EC.out] at d7; obtain ⟨ao7, n7, cs7, al7, cl7, ap7, cp7, e7⟩ := d7.form; subst e7; have D7 := hide d7; have B7 := hide b7; have RB7 := hide ((b7.block _ (lt_heap RB9.out)).trans RB9.out); clear d7 b7))
          refine bodyPost_ret (resA2 ADd Try.results42 _ _ (b0 + 1) 30 _ rfl (by rfl) (setRow_heap _ _ _ _ _ _ RB7.out) _ (by rfl)) rfl ⟨_, by rw [HY.out]; rfl, ?_, ?_⟩
          · rw [HY.out]
            exact (D7.out.write (Fr.setRow (S := K2) W7 (HKo.out (b0 + 1) (by omega) (by omega)) _)).mono HKn.out
          · have h5 := below_next BW.out B7.out
            first | exact below_setRow h5 (by omega) _ | (rw [hgb] at h5; exact below_setRow h5 (by omega) _)
        · have HY := hide (HM.out (by unfold hereB; simp [p2]))
          have q2 : (f.sync == b) = false := by simpa using p2
          have c2 := c2
          clear HS HM HN p2
          rw [p1] at d0
          go_upto_region 4 with fail
          go_quiet (fail)
          go_wp2
          go_round
          case rel => exact ⟨k + 1, LT.out, by go_num, HY, below_drewN J.out _⟩
          case measure => have := LT.out; simp [intOf]; omega
      · have HY := hide (HM.out (by unfold hereB; simp [p1]))
        have q1 : (f.pos == (x.made : Int)) = false := by simpa using p1
        have q1b : decide (f.pos = (x.made : Int)) = false := decide_eq_false p1
        clear HS HM HN p1
        go_upto_region 4 with fail
        go_quiet (fail)
        go_wp2
        go_round
        case rel => exact ⟨k + 1, LT.out, by go_num, HY, below_drewN J.out _⟩
        case measure => have := LT.out; simp [intOf]; omega
    · have h2 : ¬ (k : Int) < x.plan.length := by omega
      have hkn : k = x.plan.length := by omega
      have SN : Hid (stS x b = none) := by
        refine st_none fun f hf => HN.out f ?_
        rw [hkn, List.take_length]
        exact hf
      go_wp2_with ((with_reducible refine at_list ?_); first | refine wpList_loadA ADd rfl _ rfl b0 rfl _ rfl _ RA.out ?_ | refine wpList_storeA ADd rfl _ _ rfl (b0 + 1) _ (by rfl) (by simp [Value.oneCell']) rfl rfl _ (by rfl) _ RB.out ?_)
      have FA := Fr.setRow (S := K2) wr (HKo.out (b0 + 1) (by omega) (by omega)) #[.slice ao S.length cs, .slice al x.loose.length cl, .int .i64 (x.made : Int), .slice ap x.plan.length cp, .bool x.dead]
      refine bodyPost_ret (resA2 ADd Try.results42 _ _ (b0 + 1) 30 _ rfl (by rfl) (setRow_heap _ _ _ _ _ _ RB.out) _ (by rfl)) rfl ⟨_, by rw [SN.out]; rfl, ?_, ?_⟩
      · rw [SN.out]
        exact ⟨_, _, _, S, rfl, ((H1.out.below J.out).write FA).mono HKn.out⟩
      · have h1 := HB.out
        have h3 := HB.out.size
        rw [hgb] at h3
        first | exact below_setRow (h1.trans (J.out.mono h3)) (by omega) _ | (rw [hgb]; exact below_setRow (h1.trans (J.out.mono h3)) (by omega) _)
end
end Go.Proofs.Ythnfpdmhjennlaa
