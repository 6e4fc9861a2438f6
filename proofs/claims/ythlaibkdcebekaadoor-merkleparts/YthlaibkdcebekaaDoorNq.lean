/- The contract of the document's Part. -/
import Derived.Test.YthlaibkdcebekaaDoorNp
namespace Go.Proofs.YthlaibkdcebekaaDoor
open Go.RowKit
open Go.Deep
theorem rpart_any {B : World} {v0 vm : Value} {ms : List Bool} {L : List (List UInt8)} {N n : Nat} (T : ∃ g c, v0 = .slice (some ⟨g, 0, none⟩) N c ∧ ∀ i, i < N → ∃ x, g < B.heap.size ∧ B.cell? ⟨g, i, none⟩ = some x ∧ LH B x (lv L i)) (M : LB B vm ms) (hms : ms.length = L.length) (hn : L.length ≤ 300) (hN : N ≤ 10) : ∀ k, k < N → ∀ p, p < (lv L k).length → RTold B v0 vm ms L n k p
  | 0, hk, p, hp => rpart_step T M hms hn 0 p hk hN hp (by have := lv_le L 0; omega) (fun k e => by omega)
  | k + 1, hk, p, hp => rpart_step T M hms hn (k + 1) p hk hN hp (by have := lv_le L (k + 1); omega) (fun k' e q hq => by
      obtain rfl : k = k' := by omega
      exact rpart_any T M hms hn hN k (by omega) q hq)
section
set_option maxRecDepth 10000
set_option maxHeartbeats 4000000
theorem rPart_yes (v vm : Value) (L : List (List UInt8)) (ms : List Bool) (w : World) (hL : LH w v L) (hM : LB w vm ms) (hms : ms.length = L.length) (h0 : 0 < L.length) (hn : L.length ≤ 300) : Calls Tryd.prog 8 #[v, vm] w fun e w' => ∃ vb vi, e = .returned (.agg #[.int .i64 (L.length : Int), vb, vi]) ∧ OB w' vb (tl ms L (dp L.length) 0).1 ∧ OH 38 w' vi (tl ms L (dp L.length) 0).2 ∧ Below w.heap.size w w' := by
  obtain ⟨ao, cap, rfl⟩ := hL.form
  obtain ⟨am, capm, rfl, _⟩ := hM.form
  have HL := hide hL
  have HM := hide hM
  have HN := hide (And.intro hms (And.intro h0 hn))
  have HLv := hide fun W hW => rlevels_any (.slice ao L.length cap) L W hW h0 (by omega)
  clear hL hM h0 hn hms
  go_enter Tryd.func8, Tryd.ntmps8
  go_upto_region 1 with fail
  have R1 := hide (heap_alloc_last w (.cells #[.int .i64 0, .slice none 0 0, .slice none 0 0] 33))
  have B1 : Hid (Below w.heap.size w (w.alloc (.cells #[.int .i64 0, .slice none 0 0, .slice none 0 0] 33))) := (Below.refl _ _).alloc (Nat.le_refl _) _
  have S1 := hide (show w.heap.size < (w.alloc (.cells #[.int .i64 0, .slice none 0 0, .slice none 0 0] 33)).heap.size by simp)
  generalize w.alloc (.cells #[.int .i64 0, .slice none 0 0, .slice none 0 0] 33) = W1 at *
  go_upto_region 2 with (first | (go_at_call 22; refine (HLv.out _ (HL.out.below B1.out)).mono ?_; rintro e w2 ⟨v0, rfl, vs, l2, hvs⟩; have L2 := hide l2; have HVS := hide hvs; clear l2 hvs; obtain ⟨g0, c0, rfl, _⟩ := L2.out.form (by rw [HVS.out]; omega)))
  obtain ⟨hms, h0, hn⟩ := HN.out
  have hd9 : dp L.length ≤ 9 := by
    unfold dp
    split
    · omega
    · exact bl_le_of _ 9 (by omega)
  have hp2 : 2 ^ (dp L.length + 1) ≤ 2 ^ 10 := Nat.pow_le_pow_right (by decide) (by omega)
  have hvs := HVS.out
  have T : ∃ g c, Value.slice (some ⟨g0, 0, none⟩) vs.length c0 = .slice (some ⟨g, 0, none⟩) vs.length c ∧ ∀ i, i < vs.length → ∃ x, g < w2.heap.size ∧ w2.cell? ⟨g, i, none⟩ = some x ∧ LH w2 x (lv L i) := by
    refine ⟨g0, c0, rfl, fun i hi => ?_⟩
    have hx : vs[i]? = some (vs[i]'(by omega)) := List.getElem?_eq_getElem (by omega)
    exact ⟨_, (L2.out.row.lt g0 rfl).2, L2.out.cell rfl hx, (L2.out.el i _ hx).1⟩
  have HT := hide (rpart_any (n := L.length) T ((HM.out.below B1.out).below L2.out.bel) hms hn (by omega) (dp L.length) (by omega) 0 (lv_pos L h0 _))
  have P0 : Hid (Ps w2 w2 (.slice none 0 0) (.slice none 0 0) [] []) := ⟨Below.refl _ _, OB.nil _, (fun g hg => by cases hg), OH.nil _ _, (fun g hg => by cases hg)⟩
  have z1 := hide (show ([] : List Bool).length + 2 ^ (dp L.length + 1) ≤ 1000000 by simp; omega)
  have z2 := hide (show ([] : List (List UInt8)).length + 2 ^ (dp L.length + 1) ≤ 1000000 by simp; omega)
  have e1 : IntKind.i64.wrap ((vs.length : Int) - 1) = ((dp L.length : Nat) : Int) := by rw [wrapI _ (by omega) (by omega)]; omega
  have hs2 := L2.out.bel.size
  have hs1 := S1.out
  have R2 : Hid (w2.rowIs w.heap.size 33 3 (fun i => if i = 0 then .int .i64 0 else .slice none 0 0)) := by
    refine row_of (n := 3) rfl ((L2.out.bel.block _ (by omega)).trans R1.out) (fun i hi => ?_)
    have : i = 0 ∨ i = 1 ∨ i = 2 := by omega
    rcases this with rfl | rfl | rfl <;> rfl
  have B2 := hide (below_next B1.out L2.out.bel)
  have LT := hide (show w.heap.size < w2.heap.size by omega)
  clear hms h0 hn hd9 hp2 hvs T hs1 hs2 L2 R1 S1 B1 HLv HL HM HN
  generalize hlb : (tl ms L (dp L.length) 0).1.length = lb at *
  generalize hli : (tl ms L (dp L.length) 0).2.length = li at *
  have HLB := hide hlb
  have HLI := hide hli
  clear hlb hli
  generalize hgr : w.heap.size = gr at *
  have HGR := hide hgr
  clear hgr
  go_upto_region 3 with (first | (go_at_call 23; refine (HT.out _ _ _ _ _ P0.out z1.out z2.out).mono ?_; rintro e w3 ⟨vb, vi, rfl, ps3, on3⟩; rw [List.nil_append, List.nil_append] at ps3; obtain ⟨ab, cb, rfl⟩ := ps3.bits.form; obtain ⟨ai, ci, rfl⟩ := ps3.ids.form; rw [HLB.out, HLI.out] at ps3 on3; rw [HLB.out, HLI.out]; have hr := World.rowIs.of_block R2.out (ps3.bel.block _ LT.out); have PS := hide ps3; have HR := hide hr; have d0 := World.rowIs.cell hr (i := 0) (by decide); have d1 := World.rowIs.cell hr (i := 1) (by decide); have d2 := World.rowIs.cell hr (i := 2) (by decide); have f0 := World.rowIs.frozen hr 0; have f1 := World.rowIs.frozen hr 1; have f2 := World.rowIs.frozen hr 2; clear ps3 on3 hr))
  have Q2 := World.rowIs.set (World.rowIs.set (World.rowIs.set HR.out 0 (.int .i64 (L.length : Int))) 1 (.slice ab lb cb)) 2 (.slice ai li ci)
  have k0 := World.rowIs.cell Q2 (i := 0) (by decide)
  have k1 := World.rowIs.cell Q2 (i := 1) (by decide)
  have k2 := World.rowIs.cell Q2 (i := 2) (by decide)
  simp at k0 k1 k2
  have BF : Hid (OB (((w3.setCell ⟨gr, 0, none⟩ (.int .i64 (L.length : Int))).setCell ⟨gr, 1, none⟩ (.slice ab lb cb)).setCell ⟨gr, 2, none⟩ (.slice ai li ci)) (.slice ab lb cb) (tl ms L (dp L.length) 0).1 ∧ OH 38 (((w3.setCell ⟨gr, 0, none⟩ (.int .i64 (L.length : Int))).setCell ⟨gr, 1, none⟩ (.slice ab lb cb)).setCell ⟨gr, 2, none⟩ (.slice ai li ci)) (.slice ai li ci) (tl ms L (dp L.length) 0).2 ∧ Below w.heap.size w (((w3.setCell ⟨gr, 0, none⟩ (.int .i64 (L.length : Int))).setCell ⟨gr, 1, none⟩ (.slice ab lb cb)).setCell ⟨gr, 2, none⟩ (.slice ai li ci))) := by
    have hb : ∀ g, g ≠ gr → (((w3.setCell ⟨gr, 0, none⟩ (.int .i64 (L.length : Int))).setCell ⟨gr, 1, none⟩ (.slice ab lb cb)).setCell ⟨gr, 2, none⟩ (.slice ai li ci)).heap[g]? = w3.heap[g]? := fun g h => by
      rw [Below.heap_setCell _ _ _ _ h, Below.heap_setCell _ _ _ _ h, Below.heap_setCell _ _ _ _ h]
    have hlt := LT.out
    have hg := HGR.out
    refine ⟨PS.out.bits.of_block fun g hg => hb g ?_, PS.out.ids.of_block fun g hg => hb g ?_, ?_⟩
    · have := PS.out.bfar g hg
      omega
    · have := PS.out.ifar g hg
      omega
    · subst hg
      have b5 := below_next B2.out PS.out.bel
      exact ((b5.setCell (Nat.le_refl _) _).setCell (Nat.le_refl _) _).setCell (Nat.le_refl _) _
  generalize (((w3.setCell ⟨gr, 0, none⟩ (.int .i64 (L.length : Int))).setCell ⟨gr, 1, none⟩ (.slice ab lb cb)).setCell ⟨gr, 2, none⟩ (.slice ai li ci)) = W6 at *
  refine bodyPost_ret (v := .agg #[.int .i64 (L.length : Int), .slice ab lb cb, .slice ai li ci]) ?_ rfl ⟨_, _, rfl, BF.out⟩
  unfold results
  rw [Tryd.results8]
  clear BF PS HT P0 R2 B2 HR Q2 d0 d1 d2 f0 f1 f2
  go_simp
end
end Go.Proofs.YthlaibkdcebekaaDoor
