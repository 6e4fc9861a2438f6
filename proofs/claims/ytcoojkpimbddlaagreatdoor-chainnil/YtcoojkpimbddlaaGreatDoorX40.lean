/- A tree: the body of a node on which nothing stands, and which stands on a whole one: its contract. block.Mine, whatever the header and the number of tries: its contract. The law's awake (the locator of genesis); LocateNil's walk. -/
import Derived.Test.YtcoojkpimbddlaaGreatDoorP0
import Derived.Test.YtcoojkpimbddlaaGreatDoorX39
import Derived.Test.YtcoojkpimbddlaaGreatDoorX16
import Derived.Test.YtcoojkpimbddlaaGreatDoorX38
namespace Go.Proofs.YtcoojkpimbddlaaGreatDoor
open Go.RowKit
open Go.Deep
open Go.Maps
set_option linter.unusedVariables false
set_option linter.unusedSimpArgs false
def SmT (L L' : List Tno) : Prop := L'.length = L.length ∧ ∀ j (h : j < L.length) (h' : j < L'.length), L'[j].id = L[j].id ∧ L'[j].h = L[j].h ∧ L'[j].ht = L[j].ht ∧ L'[j].sk = L[j].sk
theorem SmT.set (L : List Tno) (p : Nat) (hp : p < L.length) (x : Tno) (h1 : x.id = L[p].id) (h2 : x.h = L[p].h) (h3 : x.ht = L[p].ht) (h4 : x.sk = L[p].sk) : SmT L (L.set p x) := by
  refine ⟨List.length_set .., fun j h h' => ?_⟩
  rw [List.getElem_set]
  split
  · rename_i e
    subst e
    exact ⟨h1, h2, h3, h4⟩
  · exact ⟨rfl, rfl, rfl, rfl⟩
theorem SmT.trans {L L' L'' : List Tno} (a : SmT L L') (b : SmT L' L'') : SmT L L'' := ⟨b.1.trans a.1, fun j h h' => by
  have q : j < L'.length := by rw [a.1]; exact h
  have r := b.2 j q h'
  have s := a.2 j h q
  exact ⟨r.1.trans s.1, r.2.1.trans s.2.1, r.2.2.1.trans s.2.2.1, r.2.2.2.trans s.2.2.2⟩⟩
section
set_option maxRecDepth 10000
set_option maxHeartbeats 4000000
theorem body_17 {B w : World} {gt gm n : Nat} {D : DataW Unit} {ve : Value} {L : List Tno} {tu be p : Nat} (h : Tm4 B w gt gm n D ve L tu be p) (hm : L.length ≤ 1000000) (ht : tu ≤ 1000000) (l : List UInt8) (hl : l.length = 32) (hp : p < L.length) (hb : be < L.length) (hat : D.atKey (.string l) (.lit (.int .i64 0)) = .lit (.int .i64 (p : Int))) (hh : Maps.has D (.string l) = true) (hbd : L[p].bd = false) (hbad : L[p].bad = false) (hyo : L[p].yo = 0) (hpa : L[p].pa < L.length) (hne : L[p].pa ≠ p) (hbe : be ≠ p) (hwh : L[L[p].pa].wh = true) (hxM : L[p].wk < M) (hyM : L[be].wk < M) (hlt : L[be].wk < L[p].wk) :
    Calls Tryz.prog 14 #[.pointer (some ⟨gt, 0, none⟩), .agg (hc l)] w fun e w' => ∃ v, e = .returned (.tuple #[v, .int .i64 0]) ∧ ∃ L', SmT L L' ∧ Tm4 B w' gt gm n D ve L' (tu + 1) p p ∧ Frt (S4 gt gm ve) w w' := by
  have R3 := hide (heap_alloc_last w (.cells (hc l) 46))
  have b1 := (Below.refl w.heap.size w).alloc (Nat.le_refl _) (.cells (hc l) 46)
  have X1 := hide (h.next b1)
  have F1 := hide (Frt.of_below (S := S4 gt gm ve) b1)
  obtain ⟨ge, cap, rfl⟩ := h.own.form0 (by omega)
  have LK : Hid (∀ W, Tm4 B W gt gm n D (.slice (some ⟨ge, 0, none⟩) L.length cap) L tu be p → (Instr.lookup 118 (.map (some gm)) (.agg (hc l)) true).run Tryz.prog W = .ok (.tuple #[.int .i64 (p : Int), .bool true]) W) := fun W q => by
    have := look14 q.map l hl p hat
    rw [hh] at this
    exact this
  have CZ : Hid ((hc l).size = 32) := by show _ = _; rw [hc_size, hl]
  have RG : ∀ (K : List Tno) (k : Nat) (hk : k < K.length) (c n' tu' be' bh' : Nat) (D' : DataW Unit) (W : World), Tm4 B W gt gm n' D' (.slice (some ⟨ge, 0, none⟩) K.length c) K tu' be' bh' → W.rangeAt ge (k * 114) K[k].cells := fun K k hk c n' tu' be' bh' D' W q => by
    have r := q.own.read.range k hk
    have : (0 : Nat) + k * KNo.k = k * 114 := by show 0 + k * 114 = _; omega
    rw [this] at r
    exact r
  have L1 : Hid (∀ W, Tm4 B W gt gm n D (.slice (some ⟨ge, 0, none⟩) L.length cap) L tu be p → W.cell? ⟨ge, p * 114 + 106, none⟩ = some (.bool false) ∧ W.frozen? ⟨ge, p * 114 + 106, none⟩ = false) := fun W q => ⟨by
    have := L[p].cbd (RG L p hp _ _ _ _ _ _ W q)
    rw [hbd] at this
    exact this, OX.fz q.own _⟩
  have LA : Hid (SmT L (L.set p L[p].withBd)) := SmT.set L p hp _ rfl rfl rfl rfl
  have SB : Hid (∀ W, Tm4 B W gt gm n D (.slice (some ⟨ge, 0, none⟩) L.length cap) L tu be p → Tm4 B (W.setCell ⟨ge, p * 114 + 106, none⟩ (.bool true)) gt gm n D (.slice (some ⟨ge, 0, none⟩) L.length cap) (L.set p L[p].withBd) tu be p ∧ Frt (S4 gt gm (.slice (some ⟨ge, 0, none⟩) L.length cap)) W (W.setCell ⟨ge, p * 114 + 106, none⟩ (.bool true))) := fun W q => q.setNo p hp 106 (by omega) _ _ (L[p].withBd_cells)
  have lenA : (L.set p L[p].withBd).length = L.length := List.length_set ..
  have hpA : p < (L.set p L[p].withBd).length := by rw [lenA]; exact hp
  have hA1 : (L.set p L[p].withBd)[p] = L[p].withBd := List.getElem_set_self ..
  have hA2 : ∀ k (hk : k < L.length) (hk' : k < (L.set p L[p].withBd).length), k ≠ p → (L.set p L[p].withBd)[k] = L[k] := fun k hk hk' e => List.getElem_set_ne (fun q => e q.symm) _
  obtain ⟨LL, LA, SB, lenA, hpA, hA1, hA2⟩ : ∃ LL : List Tno, Hid (SmT L LL) ∧ Hid (∀ W, Tm4 B W gt gm n D (.slice (some ⟨ge, 0, none⟩) L.length cap) L tu be p → Tm4 B (W.setCell ⟨ge, p * 114 + 106, none⟩ (.bool true)) gt gm n D (.slice (some ⟨ge, 0, none⟩) L.length cap) LL tu be p ∧ Frt (S4 gt gm (.slice (some ⟨ge, 0, none⟩) L.length cap)) W (W.setCell ⟨ge, p * 114 + 106, none⟩ (.bool true))) ∧ LL.length = L.length ∧ ∃ hpA : p < LL.length, LL[p] = L[p].withBd ∧ ∀ k (hk : k < L.length) (hk' : k < LL.length), k ≠ p → LL[k] = L[k] := ⟨L.set p L[p].withBd, LA, SB, lenA, hpA, hA1, hA2⟩
  have PA : Hid (∀ W, Tm4 B W gt gm n D (.slice (some ⟨ge, 0, none⟩) L.length cap) LL tu be p → W.cell? ⟨ge, p * 114 + 110, none⟩ = some (.int .i64 (L[p].pa : Int)) ∧ W.cell? ⟨ge, L[p].pa * 114 + 107, none⟩ = some (.bool true)) := fun W q => by
    rw [← lenA] at q
    refine ⟨?_, ?_⟩
    · have := LL[p].cpa (RG LL p hpA _ _ _ _ _ _ W q)
      rw [hA1] at this
      exact this
    · have hq : L[p].pa < LL.length := by rw [lenA]; exact hpa
      have := LL[L[p].pa].cwh (RG LL _ hq _ _ _ _ _ _ W q)
      rw [hA2 _ hpa hq hne, hwh] at this
      exact this
  have HS : Hid (∀ W f, Tm4 B W gt gm n D (.slice (some ⟨ge, 0, none⟩) L.length cap) LL tu be p → Calls Tryz.prog 68 #[.pointer (some ⟨gt, 0, none⟩), .int .i64 (p : Int), f] W fun e w' => ∃ g, e = .returned (.slice (some ⟨g, 0, none⟩) 1 1) ∧ w'.heap[g]? = some (.cells #[.int .i64 (p : Int)] 3 (0, 0)) ∧ Below W.heap.size W w') := fun W f q => spread_one q (by rw [lenA]; exact hm) p hpA (by rw [hA1]; exact hyo) f
  -- the two cells of the node that are written at its turn
  have ST : Hid (∀ W, Tm4 B W gt gm n D (.slice (some ⟨ge, 0, none⟩) L.length cap) LL (tu + 1) be p → (W.cell? ⟨ge, p * 114 + 107, none⟩ ≠ none ∧ W.frozen? ⟨ge, p * 114 + 107, none⟩ = false ∧ (W.setCell ⟨ge, p * 114 + 107, none⟩ (.bool true)).cell? ⟨ge, p * 114 + 109, none⟩ ≠ none ∧ (W.setCell ⟨ge, p * 114 + 107, none⟩ (.bool true)).frozen? ⟨ge, p * 114 + 109, none⟩ = false) ∧ ∃ L', SmT L L' ∧ L'.length = L.length ∧ (∃ hq : p < L'.length, L'[p].wh = true ∧ L'[p].bad = false ∧ L'[p].wk = L[p].wk) ∧ (∃ hq : be < L'.length, L'[be].wk = L[be].wk) ∧ Tm4 B ((W.setCell ⟨ge, p * 114 + 107, none⟩ (.bool true)).setCell ⟨ge, p * 114 + 109, none⟩ (.int .i64 ((tu : Int) + 1))) gt gm n D (.slice (some ⟨ge, 0, none⟩) L.length cap) L' (tu + 1) be p ∧ Frt (S4 gt gm (.slice (some ⟨ge, 0, none⟩) L.length cap)) W ((W.setCell ⟨ge, p * 114 + 107, none⟩ (.bool true)).setCell ⟨ge, p * 114 + 109, none⟩ (.int .i64 ((tu : Int) + 1)))) := fun W q => by
    rw [← lenA] at q
    have s1 := q.setNo p hpA 107 (by omega) (.bool true) _ (LL[p].withWh_cells)
    have lenB : (LL.set p LL[p].withWh).length = LL.length := List.length_set ..
    have hpB : p < (LL.set p LL[p].withWh).length := by rw [lenB]; exact hpA
    have q2 := s1.1
    rw [← lenB] at q2
    have s2 := q2.setNo p hpB 109 (by omega) (.int .i64 ((tu : Int) + 1)) ((LL.set p LL[p].withWh)[p].withTu (tu + 1)) (by
      have := (LL.set p LL[p].withWh)[p].withTu_cells (tu + 1)
      rw [show ((tu + 1 : Nat) : Int) = (tu : Int) + 1 by omega] at this
      exact this)
    have e1 := LL[p].cwh (RG LL p hpA _ _ _ _ _ _ W q)
    have e2 := (LL.set p LL[p].withWh)[p].ctu (RG _ p hpB _ _ _ _ _ _ _ q2)
    have hB1 : (LL.set p LL[p].withWh)[p] = LL[p].withWh := List.getElem_set_self ..
    have lenC : ((LL.set p LL[p].withWh).set p ((LL.set p LL[p].withWh)[p].withTu (tu + 1))).length = LL.length := by rw [List.length_set, List.length_set]
    have hpC : p < ((LL.set p LL[p].withWh).set p ((LL.set p LL[p].withWh)[p].withTu (tu + 1))).length := by rw [lenC]; exact hpA
    have hC1 : ((LL.set p LL[p].withWh).set p ((LL.set p LL[p].withWh)[p].withTu (tu + 1)))[p] = (LL.set p LL[p].withWh)[p].withTu (tu + 1) := List.getElem_set_self ..
    refine ⟨⟨by rw [show W.cell? ⟨ge, p * 114 + 107, none⟩ = _ from e1]; simp, OX.fz q.own _, by rw [show (W.setCell ⟨ge, p * 114 + 107, none⟩ (.bool true)).cell? ⟨ge, p * 114 + 109, none⟩ = _ from e2]; simp, OX.fz q2.own _⟩, (LL.set p LL[p].withWh).set p ((LL.set p LL[p].withWh)[p].withTu (tu + 1)), ?_, by rw [lenC, lenA], ⟨hpC, ?_, ?_, ?_⟩, ⟨by rw [lenC, lenA]; exact hb, ?_⟩, ?_, ?_⟩
    · exact (LA.out.trans (SmT.set LL p hpA (LL[p].withWh) rfl rfl rfl rfl)).trans (SmT.set (LL.set p LL[p].withWh) p hpB ((LL.set p LL[p].withWh)[p].withTu (tu + 1)) rfl rfl rfl rfl)
    · rw [hC1, hB1]; rfl
    · rw [hC1, hB1, hA1]; exact hbad
    · rw [hC1, hB1, hA1]; rfl
    · rw [List.getElem_set_ne (fun e => hbe e.symm), List.getElem_set_ne (fun e => hbe e.symm), hA2 be hb _ hbe]
    · have := s2.1
      rw [lenB, lenA] at this
      exact this
    · have f2 := s2.2
      rw [lenB, lenA] at f2
      have f1 := s1.2
      rw [lenA] at f1
      exact f1.trans' f2
  have HWt : Hid (∀ W L', L'.length = L.length → (∃ hq : p < L'.length, L'[p].wh = true ∧ L'[p].bad = false ∧ L'[p].wk = L[p].wk) → (∃ hq : be < L'.length, L'[be].wk = L[be].wk) → Tm4 B W gt gm n D (.slice (some ⟨ge, 0, none⟩) L.length cap) L' (tu + 1) be p → Calls Tryz.prog 70 #[.pointer (some ⟨gt, 0, none⟩), .int .i64 (p : Int)] W fun e w' => e = .returned (.tuple #[]) ∧ Tm4 B w' gt gm n D (.slice (some ⟨ge, 0, none⟩) L.length cap) L' (tu + 1) p p ∧ Frt (S4 gt gm (.slice (some ⟨ge, 0, none⟩) L.length cap)) W w') := fun W L' e ⟨hq, a1, a2, a3⟩ ⟨hr, a4⟩ q => weigh_both q (by rw [e]; exact hm) hq hr a1 a2 (by rw [a3]; exact hxM) (by rw [a4]; exact hyM) (by rw [a3, a4]; exact hlt)
  have HID : Hid (∀ W g L', L'.length = L.length → Tm4 B W gt gm n D (.slice (some ⟨ge, 0, none⟩) L.length cap) L' (tu + 1) p p → W.heap[g]? = some (.cells #[.int .i64 (p : Int)] 3 (0, 0)) → Calls Tryz.prog 71 #[.pointer (some ⟨gt, 0, none⟩), .slice (some ⟨g, 0, none⟩) 1 1] W fun e w' => ∃ v, e = .returned v ∧ Below W.heap.size W w') := fun W g L' e q hg => ids_one q (by rw [e]; exact hm) p (by rw [e]; exact hp) g hg
  have x1 : (p : Int) < (L.length : Int) := by omega
  have x2 : (0 : Int) ≤ (p : Int) := by omega
  have x3 : (L[p].pa : Int) < (L.length : Int) := by omega
  have x4 : (0 : Int) ≤ (L[p].pa : Int) := by omega
  have x5 : IntKind.i64.wrap ((tu : Int) + 1) = (tu : Int) + 1 := wrapI _ (by omega) (by omega)
  have LT := hide (show gt < w.heap.size ∧ gm < w.heap.size ∧ ge < w.heap.size from ⟨lt_heap h.row, h.map.lt, h.own.lt ge rfl⟩)
  clear b1 h hm ht hl hat hh hbd hbad hyo hpa hne hbe hwh hxM hyM hlt RG lenA hpA hA1 hA2
  generalize hc l = C at *
  generalize L[p].pa = pa at *
  go_enter Tryz.func14, Tryz.ntmps14
  go_upto_region 1 with ((with_reducible refine at_list ?_); refine wpList_boxA rfl _ rfl C rfl ?_)
  generalize w.alloc (.cells C 46) = W0 at *
  go_upto_region 3 with fail
  have DV1 := hide ((Below.refl W0.heap.size W0).drew)
  refine wp_region_held_drew (S := fun W => Below W0.heap.size W0 W) (by kernel_rfl) DV1.out (fun hH => ?_)
  generalize hWd : W0.drew = V1 at *
  clear hWd
  refine wt (i := 0) (v := (.pointer (some ⟨gt, 0, none⟩))) rfl (yl_move (by rfl) _ (by rfl) _ (by rfl)) hH ?_
  change wpAnyH _ _ _ _ _ _ _ (Act.put _ (some 16) _) _
  simp only [Act.put, List.setIfInBounds_toArray, List.set_cons_zero, List.set_cons_succ]
  refine wt (i := 1) (v := (.pointer (some ⟨gt, 0, none⟩))) rfl (.inl ⟨by rfl, fun W _ => by go_simp⟩) hH ?_
  change wpAnyH _ _ _ _ _ _ _ (Act.put _ (some 17) _) _
  simp only [Act.put, List.setIfInBounds_toArray, List.set_cons_zero, List.set_cons_succ]
  refine wt (i := 2) (v := (.pointer (some ⟨gt, 0, none⟩))) rfl (.inl ⟨by rfl, fun W _ => by go_simp⟩) hH ?_
  change wpAnyH _ _ _ _ _ _ _ (Act.put _ (some 18) _) _
  simp only [Act.put, List.setIfInBounds_toArray, List.set_cons_zero, List.set_cons_succ]
  refine wt (i := 3) (v := (.map (some gm))) rfl (.inl ⟨by rfl, fun W hS => by have c4 := (X1.out.next hS).cells.1; go_simp⟩) hH ?_
  change wpAnyH _ _ _ _ _ _ _ (Act.put _ (some 19) _) _
  simp only [Act.put, List.setIfInBounds_toArray, List.set_cons_zero, List.set_cons_succ]
  refine wt (i := 4) (v := (.agg C)) rfl (yl_load (by rfl) _ (by rfl) _ C (by rfl) (fun W hS => ld_row A25 CZ.out ((hS.block _ (lt_heap R3.out)).trans R3.out))) hH ?_
  change wpAnyH _ _ _ _ _ _ _ (Act.put _ (some 20) _) _
  simp only [Act.put, List.setIfInBounds_toArray, List.set_cons_zero, List.set_cons_succ]
  refine wt (i := 5) (v := (.tuple #[.int .i64 (p : Int), .bool true])) rfl (yl_look14 (by rfl) _ _ _ (by rfl) _ _ (by rfl) (by rfl) _ (fun W hS => LK.out W (X1.out.next hS))) hH ?_
  change wpAnyH _ _ _ _ _ _ _ (Act.put _ (some 21) _) _
  simp only [Act.put, List.setIfInBounds_toArray, List.set_cons_zero, List.set_cons_succ]
  refine wt (i := 6) (v := (.tuple #[.int .i64 (p : Int), .bool true])) rfl (yl_move (by rfl) _ (by rfl) _ (by rfl)) hH ?_
  change wpAnyH _ _ _ _ _ _ _ (Act.put _ (some 15) _) _
  simp only [Act.put, List.setIfInBounds_toArray, List.set_cons_zero, List.set_cons_succ]
  refine wt (i := 7) (v := (.int .i64 (p : Int))) rfl (.inl ⟨by rfl, fun W _ => by go_simp⟩) hH ?_
  change wpAnyH _ _ _ _ _ _ _ (Act.put _ (some 22) _) _
  simp only [Act.put, List.setIfInBounds_toArray, List.set_cons_zero, List.set_cons_succ]
  refine wt (i := 8) (v := (.bool true)) rfl (.inl ⟨by rfl, fun W _ => by go_simp⟩) hH ?_
  change wpAnyH _ _ _ _ _ _ _ (Act.put _ (some 23) _) _
  simp only [Act.put, List.setIfInBounds_toArray, List.set_cons_zero, List.set_cons_succ]
  refine wt (i := 9) (v := (.int .i64 (p : Int))) rfl (.inl ⟨by rfl, fun W _ => by go_simp⟩) hH ?_
  change wpAnyH _ _ _ _ _ _ _ (Act.put _ (some 6) _) _
  simp only [Act.put, List.setIfInBounds_toArray, List.set_cons_zero, List.set_cons_succ]
  refine wt (i := 10) (v := (.bool true)) rfl (.inl ⟨by rfl, fun W _ => by go_simp⟩) hH ?_
  change wpAnyH _ _ _ _ _ _ _ (Act.put _ (some 7) _) _
  simp only [Act.put, List.setIfInBounds_toArray, List.set_cons_zero, List.set_cons_succ]
  refine wpAnyH_done (by kernel_rfl) ?_ _
  clear hH
  have X2 := hide (X1.out.next DV1.out)
  have F2 := hide (F1.out.next DV1.out)
  clear X1 F1 DV1 LK R3 CZ
  have c1 := X2.out.cells.2.1
  obtain ⟨c2, f2⟩ := L1.out _ X2.out
  go_upto_region 10 with fail
  clear c1 c2 f2
  have X3 := hide (SB.out _ X2.out).1
  have F3 := hide (F2.out.trans' (SB.out _ X2.out).2)
  clear X2 F2 SB L1
  generalize V1.setCell ⟨ge, p * 114 + 106, none⟩ (.bool true) = W3 at *
  have X4 := hide (X3.out.next (Below.refl W3.heap.size W3).drew)
  have F4 := hide (F3.out.next (Below.refl W3.heap.size W3).drew)
  refine wp_region_held_drew (S := fun W => Tm4 B W gt gm n D (.slice (some ⟨ge, 0, none⟩) L.length cap) LL tu be p) (by kernel_rfl) X4.out (fun hH => ?_)
  generalize hWd : W3.drew = V4 at *
  clear hWd X3 F3
  refine wt (i := 0) (v := (.pointer (some ⟨gt, 0, none⟩))) rfl (yl_move (by rfl) _ (by rfl) _ (by rfl)) hH ?_
  change wpAnyH _ _ _ _ _ _ _ (Act.put _ (some 41) _) _
  simp only [Act.put, List.setIfInBounds_toArray, List.set_cons_zero, List.set_cons_succ]
  refine wt (i := 1) (v := (.pointer (some ⟨gt, 0, none⟩))) rfl (.inl ⟨by rfl, fun W _ => by go_simp⟩) hH ?_
  change wpAnyH _ _ _ _ _ _ _ (Act.put _ (some 42) _) _
  simp only [Act.put, List.setIfInBounds_toArray, List.set_cons_zero, List.set_cons_succ]
  refine wt (i := 2) (v := (.pointer (some ⟨gt, 1, none⟩))) rfl (.inl ⟨by rfl, fun W _ => by go_simp⟩) hH ?_
  change wpAnyH _ _ _ _ _ _ _ (Act.put _ (some 43) _) _
  simp only [Act.put, List.setIfInBounds_toArray, List.set_cons_zero, List.set_cons_succ]
  refine wt (i := 3) (v := (.slice (some ⟨ge, 0, none⟩) L.length cap)) rfl (.inl ⟨by rfl, fun W hS => by have c4 := hS.cells.2.1; go_simp⟩) hH ?_
  change wpAnyH _ _ _ _ _ _ _ (Act.put _ (some 44) _) _
  simp only [Act.put, List.setIfInBounds_toArray, List.set_cons_zero, List.set_cons_succ]
  refine wt (i := 4) (v := (.pointer (some ⟨ge, p * 114, none⟩))) rfl (yl_move (by rfl) _ (by rfl) _ (by rfl)) hH ?_
  change wpAnyH _ _ _ _ _ _ _ (Act.put _ (some 45) _) _
  simp only [Act.put, List.setIfInBounds_toArray, List.set_cons_zero, List.set_cons_succ]
  refine wt (i := 5) (v := (.pointer (some ⟨ge, p * 114, none⟩))) rfl (.inl ⟨by rfl, fun W _ => by go_simp⟩) hH ?_
  change wpAnyH _ _ _ _ _ _ _ (Act.put _ (some 46) _) _
  simp only [Act.put, List.setIfInBounds_toArray, List.set_cons_zero, List.set_cons_succ]
  refine wt (i := 6) (v := (.pointer (some ⟨ge, p * 114 + 110, none⟩))) rfl (.inl ⟨by rfl, fun W _ => by go_simp⟩) hH ?_
  change wpAnyH _ _ _ _ _ _ _ (Act.put _ (some 47) _) _
  simp only [Act.put, List.setIfInBounds_toArray, List.set_cons_zero, List.set_cons_succ]
  refine wt (i := 7) (v := (.int .i64 (pa : Int))) rfl (.inl ⟨by rfl, fun W hS => by have c4 := (PA.out W hS).1; go_simp⟩) hH ?_
  change wpAnyH _ _ _ _ _ _ _ (Act.put _ (some 48) _) _
  simp only [Act.put, List.setIfInBounds_toArray, List.set_cons_zero, List.set_cons_succ]
  refine wt (i := 8) (v := (.pointer (some ⟨ge, pa * 114, none⟩))) rfl (.inl ⟨by rfl, fun W _ => by go_simp⟩) hH ?_
  change wpAnyH _ _ _ _ _ _ _ (Act.put _ (some 49) _) _
  simp only [Act.put, List.setIfInBounds_toArray, List.set_cons_zero, List.set_cons_succ]
  refine wt (i := 9) (v := (.pointer (some ⟨ge, pa * 114, none⟩))) rfl (.inl ⟨by rfl, fun W _ => by go_simp⟩) hH ?_
  change wpAnyH _ _ _ _ _ _ _ (Act.put _ (some 50) _) _
  simp only [Act.put, List.setIfInBounds_toArray, List.set_cons_zero, List.set_cons_succ]
  refine wt (i := 10) (v := (.pointer (some ⟨ge, pa * 114 + 107, none⟩))) rfl (.inl ⟨by rfl, fun W _ => by go_simp⟩) hH ?_
  change wpAnyH _ _ _ _ _ _ _ (Act.put _ (some 51) _) _
  simp only [Act.put, List.setIfInBounds_toArray, List.set_cons_zero, List.set_cons_succ]
  refine wt (i := 11) (v := (.bool true)) rfl (.inl ⟨by rfl, fun W hS => by have c4 := (PA.out W hS).2; go_simp⟩) hH ?_
  change wpAnyH _ _ _ _ _ _ _ (Act.put _ (some 52) _) _
  simp only [Act.put, List.setIfInBounds_toArray, List.set_cons_zero, List.set_cons_succ]
  refine wt (i := 12) (v := (.bool false)) rfl (.inl ⟨by rfl, fun W _ => by go_simp⟩) hH ?_
  change wpAnyH _ _ _ _ _ _ _ (Act.put _ (some 53) _) _
  simp only [Act.put, List.setIfInBounds_toArray, List.set_cons_zero, List.set_cons_succ]
  refine wpAnyH_done (by kernel_rfl) ?_ _
  clear hH
  go_upto_region 13 with (go_at_call 68; refine (HS.out _ _ X4.out).mono ?_; rintro e W5 ⟨gs, rfl, rs, be5⟩; have X5 := hide (X4.out.next be5); have F5 := hide (F4.out.next be5); have R5 := hide rs; have NS := hide (lt_heap rs); clear rs be5)
  clear X4 F4 HS PA
  have GN : Hid (∀ S2 : Nat, gs ≠ S2 → True) := fun _ _ => trivial
  go_upto_region 14 with fail
  go_loopw [59] (fun i wr => (i = .int .i64 0 ∧ wr = W5) ∨ (i = .int .i64 1 ∧ Hid (∃ L', SmT L L' ∧ L'.length = L.length ∧ Tm4 B wr gt gm n D (.slice (some ⟨ge, 0, none⟩) L.length cap) L' (tu + 1) p p ∧ Frt (S4 gt gm (.slice (some ⟨ge, 0, none⟩) L.length cap)) w wr ∧ wr.heap[gs]? = some (.cells #[.int .i64 (p : Int)] 3 (0, 0))))) (fun i _ => (1 - intOf i).toNat)
  case atStart => exact .inl ⟨rfl, rfl⟩
  case round =>
    rcases hrel with ⟨rfl, rfl⟩ | ⟨rfl, J⟩
    · have GS : Hid (gs ≠ gt ∧ gs ≠ gm ∧ gs ≠ ge) := by
        obtain ⟨c, hc⟩ := X5.out.own.rowT (g := ge) rfl
        exact ⟨ne_ty R5.out X5.out.row (by decide), ne_map R5.out X5.out.map, ne_ty R5.out hc (by decide)⟩
      have FS : Hid (∀ W W', Frt (S4 gt gm (.slice (some ⟨ge, 0, none⟩) L.length cap)) W W' → W.heap[gs]? = some (.cells #[.int .i64 (p : Int)] 3 (0, 0)) → W'.heap[gs]? = some (.cells #[.int .i64 (p : Int)] 3 (0, 0))) := fun W W' f r => (f.block _ (lt_heap r) (by
        rintro (e | e | e)
        · exact GS.out.1 e
        · exact GS.out.2.1 e
        · simp only [Value.ownBlock, Option.some.injEq] at e
          exact GS.out.2.2 e.symm)).trans r
      have c1 : wr.cell? ⟨gs, 0, none⟩ = some (.int .i64 (p : Int)) := by rw [cell_of_row _ _ _ _ _ _ R5.out]; rfl
      have c2 := X5.out.cells.2.2.1
      have f2 := frozen_of_row wr gt 2 _ _ X5.out.row
      go_upto_region 17 with fail
      clear c1 c2 f2
      have TU := X5.out.setTU (tu + 1)
      rw [show ((tu + 1 : Nat) : Int) = (tu : Int) + 1 by omega] at TU
      have Y1 := hide TU.1
      have G1 := hide (F5.out.trans' TU.2)
      have Q1 := hide (FS.out _ _ TU.2 R5.out)
      clear x5 TU
      generalize wr.setCell ⟨gt, 2, none⟩ (.int .i64 ((tu : Int) + 1)) = W6 at *
      obtain ⟨⟨d1, d2, d3, d4⟩, L', s1, s2, s3, s4, s5, s6⟩ := ST.out _ Y1.out
      have Y2 := hide s5
      have G2 := hide (G1.out.trans' s6)
      have Q2 := hide (FS.out _ _ s6 Q1.out)
      have E1 := hide (And.intro s1 (And.intro s2 (And.intro s3 s4)))
      clear s1 s2 s3 s4 s5 s6
      have c1 := Y1.out.cells.2.1
      have c2 := Y1.out.cells.2.2.1
      rw [show ((tu + 1 : Nat) : Int) = (tu : Int) + 1 by omega] at c2
      obtain ⟨u1, e1⟩ := Option.ne_none_iff_exists'.1 d1
      obtain ⟨u2, e2⟩ := Option.ne_none_iff_exists'.1 d3
      clear d1 d3
      go_upto_region 19 with fail
      clear c1 c2 e1 e2 d2 d4 Y1 G1 Q1 ST
      generalize (W6.setCell ⟨ge, p * 114 + 107, none⟩ (.bool true)).setCell ⟨ge, p * 114 + 109, none⟩ (.int .i64 ((tu : Int) + 1)) = W7 at *
      go_wp2_with (go_at_call 70; refine (HWt.out _ _ E1.out.2.1 E1.out.2.2.1 E1.out.2.2.2 Y2.out).mono ?_; rintro e W8 ⟨rfl, y8, f8⟩; have Y3 := hide y8; have G3 := hide (G2.out.trans' f8); have Q3 := hide (FS.out _ _ f8 Q2.out); clear y8 f8)
      exact ⟨.inr ⟨rfl, L', E1.out.1, E1.out.2.1, Y3.out, G3.out, Q3.out⟩, by simp [intOf]⟩
    · obtain ⟨L', s1, s2, s3, s4, s5⟩ := J.out
      have Y3 := hide s3
      have G3 := hide s4
      have Q3 := hide s5
      have E1 := hide (And.intro s1 s2)
      clear J s1 s2 s3 s4 s5
      go_wp2_with (go_at_call 71; refine (HID.out _ _ _ E1.out.2 Y3.out Q3.out).mono ?_; rintro e W9 ⟨v9, rfl, be9⟩; have Y4 := hide (Y3.out.next be9); have G4 := hide (G3.out.next be9); clear be9)
      go_ret2
      exact ⟨_, rfl, L', E1.out.1, Y4.out, G4.out⟩
end
end Go.Proofs.YtcoojkpimbddlaaGreatDoor
namespace Go.Proofs.YtcoojkpimbddlaaGreatDoor
open Go.RowKit
open Go.Deep
set_option linter.unusedVariables false
set_option linter.unusedSimpArgs false
section
set_option maxRecDepth 10000
set_option maxHeartbeats 4000000
end
end Go.Proofs.YtcoojkpimbddlaaGreatDoor
namespace Go.Proofs.YtcoojkpimbddlaaGreatDoor
open Go.RowKit
open Go.Deep
open Go.Maps
set_option linter.unusedVariables false
set_option linter.unusedSimpArgs false
theorem atG : ((DataW.map []).put (.string (gH.at 1).id) (.lit (.int .i64 0)) : DataW Unit).atKey (.string (gH.at 1).id) (.lit (.int .i64 0)) = .lit (.int .i64 0) := atKey_put_same ⟨_, rfl⟩ (by simp [WideAt.IsKeyLit]) _ _
theorem hasG : Maps.has ((DataW.map []).put (.string (gH.at 1).id) (.lit (.int .i64 0)) : DataW Unit) (.string (gH.at 1).id) = true := has_put_same ⟨_, rfl⟩ (by simp [WideAt.IsKeyLit]) _
section
set_option maxRecDepth 10000
set_option maxHeartbeats 4000000
end
end Go.Proofs.YtcoojkpimbddlaaGreatDoor
