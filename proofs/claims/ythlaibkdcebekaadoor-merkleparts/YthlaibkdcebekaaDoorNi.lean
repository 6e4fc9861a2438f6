/- The contract of Part: a list and as many marks. -/
import Derived.Test.YthlaibkdcebekaaDoorNh
namespace Go.Proofs.YthlaibkdcebekaaDoor
open Go.RowKit
open Go.Deep
theorem Tb.of {w1 w2 B : World} {v0 v1 : Value} {vs vs1 : List Value} {ms : List Bool} {L : List (List UInt8)} (l : Ls w1 B v0 vs L) (m : Rw 23 (PM ms) w2 B v1 vs1) (N : Nat) (h0 : vs.length = N) (h1 : vs1.length = N) (hN : 0 < N) : Tb B v0 v1 ms L N := by
  obtain ⟨g0, c0, rfl, _⟩ := l.form (by omega)
  obtain ⟨g1, c1, rfl, _⟩ := m.form (by omega)
  refine ⟨⟨g0, c0, by rw [h0], fun i hi => ?_⟩, ⟨g1, c1, by rw [h1], fun i hi => ?_⟩⟩
  · have hx : vs[i]? = some (vs[i]'(by omega)) := List.getElem?_eq_getElem (by omega)
    exact ⟨_, (l.row.lt g0 rfl).2, l.cell rfl hx, (l.own i _ hx).read⟩
  · have hx : vs1[i]? = some (vs1[i]'(by omega)) := List.getElem?_eq_getElem (by omega)
    exact ⟨_, (m.row.lt g1 rfl).2, m.cell rfl hx, (m.el i _ hx).1⟩
section
set_option maxRecDepth 10000
set_option maxHeartbeats 4000000
theorem part_yes (v vm : Value) (L : List (List UInt8)) (ms : List Bool) (w : World) (hL : LH w v L) (hM : LB w vm ms) (hms : ms.length = L.length) (h0 : 0 < L.length) (hn : L.length ≤ 300) (hK : Kg w) : Calls Tryd.prog 6 #[v, vm] w fun e w' => ∃ vb vi, e = .returned (.tuple #[.agg #[.int .i64 (L.length : Int), vb, vi], .int .i64 0]) ∧ OB w' vb (tl ms L (dp L.length) 0).1 ∧ OH 39 w' vi (tl ms L (dp L.length) 0).2 ∧ Below w.heap.size w w' := by
  obtain ⟨ao, cap, rfl⟩ := hL.form
  obtain ⟨am, capm, rfl, _⟩ := hM.form
  have hne : ((L.length : Int) == 0) = false := by rw [beq_eq_false_iff_ne]; omega
  have h65 : ¬ (65536 : Int) < (L.length : Int) := by omega
  have HL := hide hL
  have HM := hide hM
  have HN := hide (And.intro hms (And.intro h0 hn))
  have KW : Hid (∀ W, Below w.heap.size w W → Kg W) := fun W h => hK.next h
  have HLv := hide fun W hW hKW => levels_any (.slice ao L.length cap) L W hW h0 (by omega) hKW
  have HMv := hide fun W hW => meantLevels_any (.slice am ms.length capm) ms W hW (by omega) (by omega)
  rw [hms] at HM HMv ⊢
  clear hL hM hK h0 hn hms
  go_enter Tryd.func6, Tryd.ntmps6
  go_upto_region 5 with fail
  have R1 := hide (heap_alloc_last w (.cells #[.int .i64 0, .slice none 0 0, .slice none 0 0] 25))
  have B1 : Hid (Below w.heap.size w (w.alloc (.cells #[.int .i64 0, .slice none 0 0, .slice none 0 0] 25))) := (Below.refl _ _).alloc (Nat.le_refl _) _
  have S1 := hide (show w.heap.size < (w.alloc (.cells #[.int .i64 0, .slice none 0 0, .slice none 0 0] 25)).heap.size by simp)
  generalize w.alloc (.cells #[.int .i64 0, .slice none 0 0, .slice none 0 0] 25) = W1 at *
  go_upto_region 6 with (first | (go_at_call 19; refine (HLv.out _ (HL.out.below B1.out) (KW.out _ B1.out)).mono ?_; rintro e w2 ⟨v0, vs, rfl, l2, hvs⟩; have L2 := hide l2; have HVS := hide hvs; clear l2 hvs) | (go_at_call 20; refine (HMv.out _ ((HM.out.below B1.out).below L2.out.bel)).mono ?_; rintro e w3 ⟨v1, rfl, vs1, m3, hvs1⟩; have M3 := hide m3; have HVS1 := hide hvs1; have L3 := hide (L2.out.next m3.bel); clear m3 hvs1; obtain ⟨g0, c0, rfl, _⟩ := L3.out.form (by rw [HVS.out]; omega); obtain ⟨g1, c1, rfl, _⟩ := M3.out.form (by rw [HVS1.out]; omega)))
  obtain ⟨hms, h0, hn⟩ := HN.out
  have hd9 : dp L.length ≤ 9 := by
    unfold dp
    split
    · omega
    · exact bl_le_of _ 9 (by omega)
  have hp2 : 2 ^ (dp L.length + 1) ≤ 2 ^ 10 := Nat.pow_le_pow_right (by decide) (by omega)
  have hvs := HVS.out
  have hvs1 := HVS1.out
  have T := Tb.of L3.out M3.out vs.length rfl (by rw [hvs, hvs1]) (by omega)
  rw [show vs1.length = vs.length by rw [hvs, hvs1]] at T ⊢
  have J4 : Hid (Ts w3 (w3.alloc (.cells #[.slice (some ⟨g0, 0, none⟩) vs.length c0, .slice (some ⟨g1, 0, none⟩) vs.length c1, .int .i64 (L.length : Int), .slice none 0 0, .slice none 0 0] 59)) w3.heap.size (.slice (some ⟨g0, 0, none⟩) vs.length c0) (.slice (some ⟨g1, 0, none⟩) vs.length c1) L.length (.slice none 0 0) (.slice none 0 0) [] []) :=
    ⟨(Below.refl _ _).alloc (Nat.le_refl _) _, Nat.le_refl _, row_of (n := 5) rfl (heap_alloc_last _ _) (fun i hi => by
      have : i = 0 ∨ i = 1 ∨ i = 2 ∨ i = 3 ∨ i = 4 := by omega
      rcases this with rfl | rfl | rfl | rfl | rfl <;> rfl), OB.nil _, (fun g hg => by cases hg), OH.nil _ _, (fun g hg => by cases hg)⟩
  have HT := hide (tell_any (gt := w3.heap.size) (n := L.length) T hms hn (by omega) (dp L.length) (by omega) 0 (lv_pos L h0 _))
  have z1 := hide (show ([] : List Bool).length + 2 ^ (dp L.length + 1) ≤ 1000000 by simp; omega)
  have z2 := hide (show ([] : List (List UInt8)).length + 2 ^ (dp L.length + 1) ≤ 1000000 by simp; omega)
  have e1 : IntKind.i64.wrap ((vs.length : Int) - 1) = ((dp L.length : Nat) : Int) := by rw [wrapI _ (by omega) (by omega)]; omega
  have hs2 := L2.out.bel.size
  have hs3 := M3.out.bel.size
  have hs1 := S1.out
  have R3 : Hid (w3.heap[w.heap.size]? = some (.cells #[.int .i64 0, .slice none 0 0, .slice none 0 0] 25 (0, 0))) := by
    show _ = _
    rw [M3.out.bel.block _ (by omega), L2.out.bel.block _ (by omega)]
    exact R1.out
  have B3 := hide (below_next (below_next B1.out L2.out.bel) M3.out.bel)
  have LT := hide (show w.heap.size < w3.heap.size by omega)
  clear hms h0 hn hd9 hp2 hvs hvs1 T hs1 hs2 hs3 L2 L3 M3 R1 S1 B1 HLv HMv KW HL HM
  generalize w3.alloc (.cells #[.slice (some ⟨g0, 0, none⟩) vs.length c0, .slice (some ⟨g1, 0, none⟩) vs.length c1, .int .i64 (L.length : Int), .slice none 0 0, .slice none 0 0] 59) = W4 at *
  have x0 := World.rowIs.cell J4.out.row (i := 0) (by decide)
  rw [show tc (.slice (some ⟨g0, 0, none⟩) vs.length c0) (.slice (some ⟨g1, 0, none⟩) vs.length c1) L.length (.slice none 0 0) (.slice none 0 0) 0 = .slice (some ⟨g0, 0, none⟩) vs.length c0 from rfl] at x0
  generalize hgt : w3.heap.size = gt at *
  go_upto_region 7 with (first | (go_at_call 21; refine (HT.out _ _ _ _ _ J4.out z1.out z2.out).mono ?_; rintro e w5 ⟨⟨r, rfl⟩, vb, vi, j5⟩; have J5 := hide j5; clear j5))
  rw [List.nil_append, List.nil_append] at J5
  have c2 := World.rowIs.cell J5.out.row (i := 2) (by decide)
  have c3 := World.rowIs.cell J5.out.row (i := 3) (by decide)
  have c4 := World.rowIs.cell J5.out.row (i := 4) (by decide)
  rw [show tc (.slice (some ⟨g0, 0, none⟩) vs.length c0) (.slice (some ⟨g1, 0, none⟩) vs.length c1) L.length vb vi 2 = .int .i64 (L.length : Int) from rfl] at c2
  rw [show tc (.slice (some ⟨g0, 0, none⟩) vs.length c0) (.slice (some ⟨g1, 0, none⟩) vs.length c1) L.length vb vi 3 = vb from rfl] at c3
  rw [show tc (.slice (some ⟨g0, 0, none⟩) vs.length c0) (.slice (some ⟨g1, 0, none⟩) vs.length c1) L.length vb vi 4 = vi from rfl] at c4
  have R5 : w5.heap[w.heap.size]? = some (.cells #[.int .i64 0, .slice none 0 0, .slice none 0 0] 25 (0, 0)) := (J5.out.bel.block _ (by rw [hgt]; exact LT.out)).trans R3.out
  have hr : w5.rowIs w.heap.size 25 3 (fun i => if i = 0 then .int .i64 0 else .slice none 0 0) := row_of (n := 3) rfl R5 (fun i hi => by
    have : i = 0 ∨ i = 1 ∨ i = 2 := by omega
    rcases this with rfl | rfl | rfl <;> rfl)
  have d0 := World.rowIs.cell hr (i := 0) (by decide)
  have d1 := World.rowIs.cell hr (i := 1) (by decide)
  have d2 := World.rowIs.cell hr (i := 2) (by decide)
  have f0 := World.rowIs.frozen hr 0
  have f1 := World.rowIs.frozen hr 1
  have f2 := World.rowIs.frozen hr 2
  obtain ⟨ab, cb, rfl⟩ := J5.out.bits.form
  obtain ⟨ai, ci, rfl⟩ := J5.out.ids.form
  have HR := hide hr
  have HR5 := hide R5
  clear hr R5 x0
  go_wp2
  generalize hlb : (tl ms L (dp L.length) 0).1.length = lb at *
  generalize hli : (tl ms L (dp L.length) 0).2.length = li at *
  have Q0 := World.rowIs.set HR.out 0 (.int .i64 (L.length : Int))
  have Q1 := World.rowIs.set Q0 1 (.slice ab lb cb)
  have Q2 := World.rowIs.set Q1 2 (.slice ai li ci)
  have k0 := World.rowIs.cell Q2 (i := 0) (by decide)
  have k1 := World.rowIs.cell Q2 (i := 1) (by decide)
  have k2 := World.rowIs.cell Q2 (i := 2) (by decide)
  simp at k0 k1 k2
  have BF : Hid (OB (((w5.setCell ⟨w.heap.size, 0, none⟩ (.int .i64 (L.length : Int))).setCell ⟨w.heap.size, 1, none⟩ (.slice ab lb cb)).setCell ⟨w.heap.size, 2, none⟩ (.slice ai li ci)) (.slice ab lb cb) (tl ms L (dp L.length) 0).1 ∧ OH 39 (((w5.setCell ⟨w.heap.size, 0, none⟩ (.int .i64 (L.length : Int))).setCell ⟨w.heap.size, 1, none⟩ (.slice ab lb cb)).setCell ⟨w.heap.size, 2, none⟩ (.slice ai li ci)) (.slice ai li ci) (tl ms L (dp L.length) 0).2 ∧ Below w.heap.size w (((w5.setCell ⟨w.heap.size, 0, none⟩ (.int .i64 (L.length : Int))).setCell ⟨w.heap.size, 1, none⟩ (.slice ab lb cb)).setCell ⟨w.heap.size, 2, none⟩ (.slice ai li ci))) := by
    have hb : ∀ g, g ≠ w.heap.size → (((w5.setCell ⟨w.heap.size, 0, none⟩ (.int .i64 (L.length : Int))).setCell ⟨w.heap.size, 1, none⟩ (.slice ab lb cb)).setCell ⟨w.heap.size, 2, none⟩ (.slice ai li ci)).heap[g]? = w5.heap[g]? := fun g h => by
      rw [Below.heap_setCell _ _ _ _ h, Below.heap_setCell _ _ _ _ h, Below.heap_setCell _ _ _ _ h]
    have hlt := LT.out
    refine ⟨J5.out.bits.of_block fun g hg => hb g ?_, J5.out.ids.of_block fun g hg => hb g ?_, ?_⟩
    · have := J5.out.bfar g hg
      omega
    · have := J5.out.ifar g hg
      omega
    · have b5 := below_next B3.out (show Below w3.heap.size w3 w5 from J5.out.bel)
      exact ((b5.setCell (Nat.le_refl _) _).setCell (Nat.le_refl _) _).setCell (Nat.le_refl _) _
  generalize (((w5.setCell ⟨w.heap.size, 0, none⟩ (.int .i64 (L.length : Int))).setCell ⟨w.heap.size, 1, none⟩ (.slice ab lb cb)).setCell ⟨w.heap.size, 2, none⟩ (.slice ai li ci)) = W6 at *
  refine bodyPost_ret (v := .tuple #[.agg #[.int .i64 (L.length : Int), .slice ab lb cb, .slice ai li ci], .int .i64 0]) ?_ rfl ⟨_, _, rfl, BF.out⟩
  unfold results
  rw [Tryd.results6]
  clear BF J5 HT J4 R3 B3 HN
  go_simp
end
end Go.Proofs.YthlaibkdcebekaaDoor
