/- A tree: the way from a node up to its child: ancestor, fork, Fork: their contracts. Locate: the way from a node to its child: fall, Path: their contracts. -/
import Derived.Test.YtcoojkpimbddlaaGreatDoorP0
import Derived.Test.YtcoojkpimbddlaaGreatDoorX40
namespace Go.Proofs.YtcoojkpimbddlaaGreatDoor
open Go.RowKit
open Go.Deep
open Go.Maps
set_option linter.unusedVariables false
set_option linter.unusedSimpArgs false
section
set_option maxRecDepth 10000
set_option maxHeartbeats 4000000
theorem anc_skip {B w : World} {gt gm n : Nat} {D : DataW Unit} {ve : Value} {L : List Tno} {tu be bh : Nat} (h : Tm4 B w gt gm n D ve L tu be bh) (hm : L.length ≤ 1000000) (k s ht : Nat) (hk : k < L.length) (hsk : L[k].sk = s) (hs : s < L.length) (h1 : ht < L[k].ht) (h2 : L[s].ht = ht) : Calls Tryz.prog 170 #[.pointer (some ⟨gt, 0, none⟩), .int .i64 (k : Int), .int .i64 (ht : Int)] w fun e w' => e = .returned (.int .i64 (s : Int)) ∧ Below w.heap.size w w' := by
  obtain ⟨ao, cap, rfl⟩ := h.own.form
  obtain ⟨ge, oe, rfl⟩ := h.own.read.base (by omega)
  have X0 := hide h
  have LK : Hid (∀ W, Tm4 B W gt gm n D (.slice (some ⟨ge, oe, none⟩) L.length cap) L tu be bh → W.cell? ⟨ge, oe + k * 114 + 100, none⟩ = some (.int .i64 (L[k].ht : Int)) ∧ W.cell? ⟨ge, oe + k * 114 + 111, none⟩ = some (.int .i64 (s : Int)) ∧ W.cell? ⟨ge, oe + s * 114 + 100, none⟩ = some (.int .i64 (ht : Int))) := fun W q => ⟨L[k].cht (q.own.read.range k hk), by
    have := L[k].csk (q.own.read.range k hk)
    rw [hsk] at this
    exact this, by
    have := L[s].cht (q.own.read.range s hs)
    rw [h2] at this
    exact this⟩
  have x1 : (k : Int) < (L.length : Int) := by omega
  have x2 : (0 : Int) ≤ (k : Int) := by omega
  have x3 : (s : Int) < (L.length : Int) := by omega
  have x4 : (0 : Int) ≤ (s : Int) := by omega
  have x5 : decide ((ht : Int) < (L[k].ht : Int)) = true := decide_eq_true (by omega)
  have x5' : (ht : Int) < (L[k].ht : Int) := by omega
  have KN : (s : Int) ≠ (k : Int) := by
    intro e
    have e : s = k := by omega
    subst e
    omega
  clear h hm h1 h2 hsk hs
  generalize L[k].ht = z at *
  clear hk
  go_enter Tryz.func170, Tryz.ntmps170
  go_wp2
  have KS : Hid ((s : Int) ≠ (k : Int)) := KN
  go_loopw [1] (fun i wr => (i = .int .i64 (k : Int) ∧ wr = w) ∨ (i = .int .i64 (s : Int) ∧ Hid (Below w.heap.size w wr))) (fun i _ => if intOf i = (k : Int) then 1 else 0)
  case atStart => exact .inl ⟨rfl, rfl⟩
  case round =>
    rcases hrel with ⟨rfl, rfl⟩ | ⟨rfl, J⟩
    · have c1 := X0.out.cells.2.1
      have c2 := (LK.out _ X0.out).1
      go_upto_region 3 with fail
      clear c1 c2
      have X1 := hide (X0.out.next (Below.refl wr.heap.size wr).drew)
      have DV1 := hide (Below.refl wr.heap.size wr).drew
      refine wp_region_held_drew (S := fun W => Tm4 B W gt gm n D (.slice (some ⟨ge, oe, none⟩) L.length cap) L tu be bh) (by kernel_rfl) X1.out (fun hH => ?_)
      generalize hWd : wr.drew = V1 at *
      clear hWd
      refine wt (i := 0) (v := (.pointer (some ⟨gt, 0, none⟩))) rfl (yl_move (by rfl) _ (by rfl) _ (by rfl)) hH ?_
      change wpAnyH _ _ _ _ _ _ _ (Act.put _ (some 25) _) _
      simp only [Act.put, s0, s1, s2]
      refine wt (i := 1) (v := (.pointer (some ⟨gt, 0, none⟩))) rfl (.inl ⟨by rfl, fun W _ => by go_simp⟩) hH ?_
      change wpAnyH _ _ _ _ _ _ _ (Act.put _ (some 26) _) _
      simp only [Act.put, s0, s1, s2]
      refine wt (i := 2) (v := (.pointer (some ⟨gt, 1, none⟩))) rfl (.inl ⟨by rfl, fun W _ => by go_simp⟩) hH ?_
      change wpAnyH _ _ _ _ _ _ _ (Act.put _ (some 27) _) _
      simp only [Act.put, s0, s1, s2]
      refine wt (i := 3) (v := (.slice (some ⟨ge, oe, none⟩) L.length cap)) rfl (.inl ⟨by rfl, fun W hS => by have c4 := hS.cells.2.1; go_simp⟩) hH ?_
      change wpAnyH _ _ _ _ _ _ _ (Act.put _ (some 28) _) _
      simp only [Act.put, s0, s1, s2]
      refine wt (i := 4) (v := (.pointer (some ⟨ge, oe + k * 114, none⟩))) rfl (yl_move (by rfl) _ (by rfl) _ (by rfl)) hH ?_
      change wpAnyH _ _ _ _ _ _ _ (Act.put _ (some 29) _) _
      simp only [Act.put, s0, s1, s2]
      refine wt (i := 5) (v := (.pointer (some ⟨ge, oe + k * 114, none⟩))) rfl (.inl ⟨by rfl, fun W _ => by go_simp⟩) hH ?_
      change wpAnyH _ _ _ _ _ _ _ (Act.put _ (some 30) _) _
      simp only [Act.put, s0, s1, s2]
      refine wt (i := 6) (v := (.pointer (some ⟨ge, oe + k * 114 + 111, none⟩))) rfl (.inl ⟨by rfl, fun W _ => by go_simp⟩) hH ?_
      change wpAnyH _ _ _ _ _ _ _ (Act.put _ (some 31) _) _
      simp only [Act.put, s0, s1, s2]
      refine wt (i := 7) (v := (.int .i64 (s : Int))) rfl (.inl ⟨by rfl, fun W hS => by have c4 := (LK.out W hS).2.1; go_simp⟩) hH ?_
      change wpAnyH _ _ _ _ _ _ _ (Act.put _ (some 32) _) _
      simp only [Act.put, s0, s1, s2]
      refine wt (i := 8) (v := (.pointer (some ⟨ge, oe + s * 114, none⟩))) rfl (.inl ⟨by rfl, fun W _ => by go_simp⟩) hH ?_
      change wpAnyH _ _ _ _ _ _ _ (Act.put _ (some 33) _) _
      simp only [Act.put, s0, s1, s2]
      refine wt (i := 9) (v := (.pointer (some ⟨ge, oe + s * 114, none⟩))) rfl (.inl ⟨by rfl, fun W _ => by go_simp⟩) hH ?_
      change wpAnyH _ _ _ _ _ _ _ (Act.put _ (some 34) _) _
      simp only [Act.put, s0, s1, s2]
      refine wt (i := 10) (v := (.pointer (some ⟨ge, oe + s * 114 + 100, none⟩))) rfl (.inl ⟨by rfl, fun W _ => by go_simp⟩) hH ?_
      change wpAnyH _ _ _ _ _ _ _ (Act.put _ (some 35) _) _
      simp only [Act.put, s0, s1, s2]
      refine wt (i := 11) (v := (.int .i64 (ht : Int))) rfl (.inl ⟨by rfl, fun W hS => by have c4 := (LK.out W hS).2.2; go_simp⟩) hH ?_
      change wpAnyH _ _ _ _ _ _ _ (Act.put _ (some 36) _) _
      simp only [Act.put, s0, s1, s2]
      refine wt (i := 12) (v := (.int .i64 (ht : Int))) rfl (yl_move (by rfl) _ (by rfl) _ (by rfl)) hH ?_
      change wpAnyH _ _ _ _ _ _ _ (Act.put _ (some 37) _) _
      simp only [Act.put, s0, s1, s2]
      refine wt (i := 13) (v := (.bool true)) rfl (.inl ⟨by rfl, fun W _ => by go_simp⟩) hH ?_
      change wpAnyH _ _ _ _ _ _ _ (Act.put _ (some 38) _) _
      simp only [Act.put, s0, s1, s2]
      refine wpAnyH_done (by kernel_rfl) ?_ _
      clear hH
      have c3 := (LK.out _ X1.out).2.1
      go_wp2
      exact ⟨.inr ⟨rfl, DV1.out⟩, by
        show (if (s : Int) = (k : Int) then 1 else 0) < (if (k : Int) = (k : Int) then 1 else 0)
        rw [if_neg KS.out, if_pos rfl]
        omega⟩
    · have X2 := hide (X0.out.next J.out)
      have c1 := X2.out.cells.2.1
      have c2 := (LK.out _ X2.out).2.2
      go_wp2
      go_ret
      exact ⟨rfl, J.out⟩
theorem fork_up {B w : World} {gt gm n : Nat} {D : DataW Unit} {ve : Value} {L : List Tno} {tu be bh : Nat} (h : Tm4 B w gt gm n D ve L tu be bh) (hm : L.length ≤ 1000000) (i j : Nat) (hi : i < L.length) (hj : j < L.length) (h0 : L[i].ht = 0) (h1 : L[j].ht = 1) (hsk : L[j].sk = i) : Calls Tryz.prog 283 #[.pointer (some ⟨gt, 0, none⟩), .int .i64 (i : Int), .int .i64 (j : Int)] w fun e w' => e = .returned (.int .i64 (i : Int)) ∧ Below w.heap.size w w' := by
  have HA1 : Hid (∀ W, Tm4 B W gt gm n D ve L tu be bh → Calls Tryz.prog 170 #[.pointer (some ⟨gt, 0, none⟩), .int .i64 (i : Int), .int .i64 0] W fun e w' => e = .returned (.int .i64 (i : Int)) ∧ Below W.heap.size W w') := fun W q => anc_here q hm i hi 0 (by omega)
  have HA2 : Hid (∀ W, Tm4 B W gt gm n D ve L tu be bh → Calls Tryz.prog 170 #[.pointer (some ⟨gt, 0, none⟩), .int .i64 (j : Int), .int .i64 0] W fun e w' => e = .returned (.int .i64 (i : Int)) ∧ Below W.heap.size W w') := fun W q => anc_skip q hm j i 0 hj hsk hi (by omega) h0
  obtain ⟨ao, cap, rfl⟩ := h.own.form
  obtain ⟨ge, oe, rfl⟩ := h.own.read.base (by omega)
  have X0 := hide h
  have LK : Hid (∀ W, Tm4 B W gt gm n D (.slice (some ⟨ge, oe, none⟩) L.length cap) L tu be bh → W.cell? ⟨ge, oe + i * 114 + 100, none⟩ = some (.int .i64 0) ∧ W.cell? ⟨ge, oe + j * 114 + 100, none⟩ = some (.int .i64 1)) := fun W q => ⟨by
    have := L[i].cht (q.own.read.range i hi)
    rw [h0] at this
    exact this, by
    have := L[j].cht (q.own.read.range j hj)
    rw [h1] at this
    exact this⟩
  have x1 : (i : Int) < (L.length : Int) := by omega
  have x2 : (0 : Int) ≤ (i : Int) := by omega
  have x3 : (j : Int) < (L.length : Int) := by omega
  have x4 : (0 : Int) ≤ (j : Int) := by omega
  clear h hm h0 h1 hsk hi hj
  go_enter Tryz.func283, Tryz.ntmps283
  go_upto_region 1 with fail
  have X1 := hide (X0.out.next (Below.refl w.heap.size w).drew)
  have DV1 := hide (Below.refl w.heap.size w).drew
  refine wp_region_held_drew (S := fun W => Tm4 B W gt gm n D (.slice (some ⟨ge, oe, none⟩) L.length cap) L tu be bh) (by kernel_rfl) X1.out (fun hH => ?_)
  generalize hWd : w.drew = V1 at *
  clear hWd
  refine wt (i := 0) (v := (.pointer (some ⟨gt, 0, none⟩))) rfl (yl_move (by rfl) _ (by rfl) _ (by rfl)) hH ?_
  change wpAnyH _ _ _ _ _ _ _ (Act.put _ (some 10) _) _
  simp only [Act.put, s0, s1, s2]
  refine wt (i := 1) (v := (.pointer (some ⟨gt, 0, none⟩))) rfl (.inl ⟨by rfl, fun W _ => by go_simp⟩) hH ?_
  change wpAnyH _ _ _ _ _ _ _ (Act.put _ (some 11) _) _
  simp only [Act.put, s0, s1, s2]
  refine wt (i := 2) (v := (.pointer (some ⟨gt, 1, none⟩))) rfl (.inl ⟨by rfl, fun W _ => by go_simp⟩) hH ?_
  change wpAnyH _ _ _ _ _ _ _ (Act.put _ (some 12) _) _
  simp only [Act.put, s0, s1, s2]
  refine wt (i := 3) (v := (.slice (some ⟨ge, oe, none⟩) L.length cap)) rfl (.inl ⟨by rfl, fun W hS => by have c4 := hS.cells.2.1; go_simp⟩) hH ?_
  change wpAnyH _ _ _ _ _ _ _ (Act.put _ (some 13) _) _
  simp only [Act.put, s0, s1, s2]
  refine wt (i := 4) (v := (.int .i64 (i : Int))) rfl (yl_move (by rfl) _ (by rfl) _ (by rfl)) hH ?_
  change wpAnyH _ _ _ _ _ _ _ (Act.put _ (some 14) _) _
  simp only [Act.put, s0, s1, s2]
  refine wt (i := 5) (v := (.pointer (some ⟨ge, oe + i * 114, none⟩))) rfl (.inl ⟨by rfl, fun W _ => by go_simp⟩) hH ?_
  change wpAnyH _ _ _ _ _ _ _ (Act.put _ (some 15) _) _
  simp only [Act.put, s0, s1, s2]
  refine wt (i := 6) (v := (.pointer (some ⟨ge, oe + i * 114, none⟩))) rfl (.inl ⟨by rfl, fun W _ => by go_simp⟩) hH ?_
  change wpAnyH _ _ _ _ _ _ _ (Act.put _ (some 16) _) _
  simp only [Act.put, s0, s1, s2]
  refine wt (i := 7) (v := (.pointer (some ⟨ge, oe + i * 114 + 100, none⟩))) rfl (.inl ⟨by rfl, fun W _ => by go_simp⟩) hH ?_
  change wpAnyH _ _ _ _ _ _ _ (Act.put _ (some 17) _) _
  simp only [Act.put, s0, s1, s2]
  refine wt (i := 8) (v := (.int .i64 0)) rfl (.inl ⟨by rfl, fun W hS => by have c4 := (LK.out W hS).1; go_simp⟩) hH ?_
  change wpAnyH _ _ _ _ _ _ _ (Act.put _ (some 18) _) _
  simp only [Act.put, s0, s1, s2]
  refine wt (i := 9) (v := (.pointer (some ⟨gt, 0, none⟩))) rfl (yl_move (by rfl) _ (by rfl) _ (by rfl)) hH ?_
  change wpAnyH _ _ _ _ _ _ _ (Act.put _ (some 19) _) _
  simp only [Act.put, s0, s1, s2]
  refine wt (i := 10) (v := (.pointer (some ⟨gt, 0, none⟩))) rfl (.inl ⟨by rfl, fun W _ => by go_simp⟩) hH ?_
  change wpAnyH _ _ _ _ _ _ _ (Act.put _ (some 20) _) _
  simp only [Act.put, s0, s1, s2]
  refine wt (i := 11) (v := (.pointer (some ⟨gt, 1, none⟩))) rfl (.inl ⟨by rfl, fun W _ => by go_simp⟩) hH ?_
  change wpAnyH _ _ _ _ _ _ _ (Act.put _ (some 21) _) _
  simp only [Act.put, s0, s1, s2]
  refine wt (i := 12) (v := (.slice (some ⟨ge, oe, none⟩) L.length cap)) rfl (.inl ⟨by rfl, fun W hS => by have c4 := hS.cells.2.1; go_simp⟩) hH ?_
  change wpAnyH _ _ _ _ _ _ _ (Act.put _ (some 22) _) _
  simp only [Act.put, s0, s1, s2]
  refine wt (i := 13) (v := (.int .i64 (j : Int))) rfl (yl_move (by rfl) _ (by rfl) _ (by rfl)) hH ?_
  change wpAnyH _ _ _ _ _ _ _ (Act.put _ (some 23) _) _
  simp only [Act.put, s0, s1, s2]
  refine wt (i := 14) (v := (.pointer (some ⟨ge, oe + j * 114, none⟩))) rfl (.inl ⟨by rfl, fun W _ => by go_simp⟩) hH ?_
  change wpAnyH _ _ _ _ _ _ _ (Act.put _ (some 24) _) _
  simp only [Act.put, s0, s1, s2]
  refine wt (i := 15) (v := (.pointer (some ⟨ge, oe + j * 114, none⟩))) rfl (.inl ⟨by rfl, fun W _ => by go_simp⟩) hH ?_
  change wpAnyH _ _ _ _ _ _ _ (Act.put _ (some 25) _) _
  simp only [Act.put, s0, s1, s2]
  refine wt (i := 16) (v := (.pointer (some ⟨ge, oe + j * 114 + 100, none⟩))) rfl (.inl ⟨by rfl, fun W _ => by go_simp⟩) hH ?_
  change wpAnyH _ _ _ _ _ _ _ (Act.put _ (some 26) _) _
  simp only [Act.put, s0, s1, s2]
  refine wt (i := 17) (v := (.int .i64 1)) rfl (.inl ⟨by rfl, fun W hS => by have c4 := (LK.out W hS).2; go_simp⟩) hH ?_
  change wpAnyH _ _ _ _ _ _ _ (Act.put _ (some 27) _) _
  simp only [Act.put, s0, s1, s2]
  refine wt (i := 18) (v := (.int .i64 0)) rfl (.inl ⟨by rfl, fun W _ => by go_simp⟩) hH ?_
  change wpAnyH _ _ _ _ _ _ _ (Act.put _ (some 28) _) _
  simp only [Act.put, s0, s1, s2]
  refine wt (i := 19) (v := (.int .i64 0)) rfl (.inl ⟨by rfl, fun W _ => by go_simp⟩) hH ?_
  change wpAnyH _ _ _ _ _ _ _ (Act.put _ (some 7) _) _
  simp only [Act.put, s0, s1, s2]
  refine wpAnyH_done (by kernel_rfl) ?_ _
  clear hH
  go_upto_region 3 with (first | (go_at_call 170; refine (HA2.out _ X2.out).mono ?_; rintro e W3 ⟨rfl, be⟩; have D3 := hide (below_next D2.out be); clear be) | (go_at_call 170; refine (HA1.out _ X1.out).mono ?_; rintro e W2 ⟨rfl, be⟩; have X2 := hide (X1.out.next be); have D2 := hide (below_next DV1.out be); clear be))
  go_loopw [1, 2] (fun a b wr => a = .int .i64 (i : Int) ∧ b = .int .i64 (i : Int) ∧ wr = W3) (fun _ _ _ => 0)
  case atStart => exact ⟨rfl, rfl, rfl⟩
  case round =>
    obtain ⟨rfl, rfl, rfl⟩ := hrel
    go_wp2
    go_ret
    exact ⟨rfl, D3.out⟩
theorem fork_at {B w : World} {gt gm n : Nat} {D : DataW Unit} {ve : Value} {L : List Tno} {tu be bh : Nat} (h : Tm4 B w gt gm n D ve L tu be bh) (hm : L.length ≤ 1000000) (a b : List UInt8) (ha : a.length = 32) (hb : b.length = 32) (i j : Nat) (hi : i < L.length) (hj : j < L.length) (h0 : L[i].ht = 0) (h1 : L[j].ht = 1) (hsk : L[j].sk = i) (hat1 : D.atKey (.string a) (.lit (.int .i64 0)) = .lit (.int .i64 (i : Int))) (hh1 : Maps.has D (.string a) = true) (hat2 : D.atKey (.string b) (.lit (.int .i64 0)) = .lit (.int .i64 (j : Int))) (hh2 : Maps.has D (.string b) = true) (hid : L[i].id = a) : Calls Tryz.prog 229 #[.pointer (some ⟨gt, 0, none⟩), .agg (hc a), .agg (hc b)] w fun e w' => e = .returned (.tuple #[.agg (hc a), .bool true]) ∧ Below w.heap.size w w' := by
  have s1 : (w.alloc (.cells (hc a) 46)).heap.size = w.heap.size + 1 := by simp
  have s2 : ((w.alloc (.cells (hc a) 46)).alloc (.cells (hc b) 46)).heap.size = w.heap.size + 2 := by simp
  have r0 := (Below.heap_alloc _ (.cells (hc b) 46) _ (lt_heap (heap_alloc_last w (.cells (hc a) 46)))).trans (heap_alloc_last w (.cells (hc a) 46))
  have r1 := heap_alloc_last (w.alloc (.cells (hc a) 46)) (.cells (hc b) 46)
  have R3 := hide ((Below.heap_alloc _ (.cells (hc zeros) 46) _ (lt_heap r0)).trans r0)
  have R3b := hide ((Below.heap_alloc _ (.cells (hc zeros) 46) _ (lt_heap r1)).trans r1)
  have R4 := hide (heap_alloc_last ((w.alloc (.cells (hc a) 46)).alloc (.cells (hc b) 46)) (.cells (hc zeros) 46))
  have b1 := (((Below.refl w.heap.size w).alloc (Nat.le_refl _) (.cells (hc a) 46)).alloc (by rw [s1]; omega) (.cells (hc b) 46)).alloc (by rw [s2]; omega) (.cells (hc zeros) 46)
  have B1 := hide b1
  have X1 := hide (h.next b1)
  have H0 := hide h
  obtain ⟨ao, cap, rfl⟩ := h.own.form
  obtain ⟨ge, oe, rfl⟩ := h.own.read.base (by omega)
  have CZ : Hid (((hc a).size = 32 ∧ (hc a).all (·.oneCell') = true) ∧ (hc b).size = 32) := ⟨⟨by rw [hc_size, ha], hc_one a⟩, by rw [hc_size, hb]⟩
  have ZZ := hide (And.intro (show (hc zeros).size = 32 by rw [hc_size, zeros_len]) (hc_one zeros))
  have HF1 : Hid (∀ W, Tm4 B W gt gm n D (.slice (some ⟨ge, oe, none⟩) L.length cap) L tu be bh → Calls Tryz.prog 72 #[.pointer (some ⟨gt, 0, none⟩), .agg (hc a)] W fun e w' => e = .returned (.tuple #[.int .i64 (i : Int), .bool true]) ∧ Below W.heap.size W w') := fun W q => by
    have := findT_any q a ha i hat1
    rw [hh1] at this
    exact this
  have HF2 : Hid (∀ W, Tm4 B W gt gm n D (.slice (some ⟨ge, oe, none⟩) L.length cap) L tu be bh → Calls Tryz.prog 72 #[.pointer (some ⟨gt, 0, none⟩), .agg (hc b)] W fun e w' => e = .returned (.tuple #[.int .i64 (j : Int), .bool true]) ∧ Below W.heap.size W w') := fun W q => by
    have := findT_any q b hb j hat2
    rw [hh2] at this
    exact this
  have HK : Hid (∀ W, Tm4 B W gt gm n D (.slice (some ⟨ge, oe, none⟩) L.length cap) L tu be bh → Calls Tryz.prog 283 #[.pointer (some ⟨gt, 0, none⟩), .int .i64 (i : Int), .int .i64 (j : Int)] W fun e w' => e = .returned (.int .i64 (i : Int)) ∧ Below W.heap.size W w') := fun W q => fork_up q hm i j hi hj h0 h1 hsk
  have LI : Hid (∀ W, Tm4 B W gt gm n D (.slice (some ⟨ge, oe, none⟩) L.length cap) L tu be bh → W.rangeAt ge (oe + i * 114) (cellsL a)) := fun W q => by
    have := L[i].rid (q.own.read.range i hi)
    rw [hid] at this
    exact this
  have HI := hide ha
  have x1 : (i : Int) < (L.length : Int) := by omega
  have x2 : (0 : Int) ≤ (i : Int) := by omega
  rw [s2] at R4
  rw [s1] at R3b
  clear b1 r0 r1 h hm hi hj h0 h1 hsk hat1 hat2 hh1 hh2 hid ha hb
  generalize hc b = C2 at *
  go_enter Tryz.func229, Tryz.ntmps229
  go_upto_region 1 with ((with_reducible refine at_list ?_); first | refine wpList_boxA rfl _ rfl (hc a) rfl ?_ | refine wpList_boxA rfl _ rfl C2 rfl ?_ | refine wpList_allocA A25 rfl rfl ?_)
  try rw [s2]
  try rw [s1]
  clear s1 s2
  generalize ((w.alloc (.cells (hc a) 46)).alloc (.cells C2 46)).alloc (.cells (hc zeros) 46) = W0 at *
  go_upto_region 2 with (first | (go_at_call 72; refine (HF1.out _ X1.out).mono ?_; rintro e W1 ⟨rfl, be⟩; have D1 := hide be; clear be) | ((with_reducible refine at_list ?_); refine wpList_loadS A25 _ rfl w.heap.size rfl (hc a) CZ.out.1.1 46 R3.out (by rfl) ?_))
  have R5b := hide ((D1.out.block _ (lt_heap R3b.out)).trans R3b.out)
  have X2 := hide (X1.out.next D1.out)
  go_upto_region 5 with (first | (go_at_call 72; refine (HF2.out _ X2.out).mono ?_; rintro e W2 ⟨rfl, be⟩; have D2 := hide (below_next D1.out be); clear be) | ((with_reducible refine at_list ?_); refine wpList_loadS A25 _ rfl (w.heap.size + 1) rfl C2 CZ.out.2 46 R5b.out (by rfl) ?_))
  have R5 := hide ((D2.out.block _ (lt_heap R4.out)).trans R4.out)
  have X3 := hide (X1.out.next D2.out)
  have B2 := hide (below_next B1.out D2.out)
  clear R3 R3b R4 R5b D1 D2 X1 X2 HF1 HF2
  go_upto_region 7 with fail
  have DV1 := hide ((Below.refl W2.heap.size W2).drew)
  refine wp_region_held_drew (S := fun W => Tm4 B W gt gm n D (.slice (some ⟨ge, oe, none⟩) L.length cap) L tu be bh) (by kernel_rfl) (X3.out.next DV1.out) (fun hH => ?_)
  have R6 := hide ((DV1.out.block _ (lt_heap R5.out)).trans R5.out)
  have B3 := hide (below_next B2.out DV1.out)
  generalize hWd : W2.drew = V1 at *
  clear hWd
  refine wt (i := 0) (v := (.pointer (some ⟨gt, 0, none⟩))) rfl (yl_move (by rfl) _ (by rfl) _ (by rfl)) hH ?_
  change wpAnyH _ _ _ _ _ _ _ (Act.put _ (some 29) _) _
  simp only [Act.put, List.setIfInBounds_toArray, List.set_cons_zero, List.set_cons_succ]
  refine wt (i := 1) (v := (.pointer (some ⟨gt, 0, none⟩))) rfl (.inl ⟨by rfl, fun W _ => by go_simp⟩) hH ?_
  change wpAnyH _ _ _ _ _ _ _ (Act.put _ (some 30) _) _
  simp only [Act.put, List.setIfInBounds_toArray, List.set_cons_zero, List.set_cons_succ]
  refine wt (i := 2) (v := (.pointer (some ⟨gt, 1, none⟩))) rfl (.inl ⟨by rfl, fun W _ => by go_simp⟩) hH ?_
  change wpAnyH _ _ _ _ _ _ _ (Act.put _ (some 31) _) _
  simp only [Act.put, List.setIfInBounds_toArray, List.set_cons_zero, List.set_cons_succ]
  refine wt (i := 3) (v := (.slice (some ⟨ge, oe, none⟩) L.length cap)) rfl (.inl ⟨by rfl, fun W hS => by have c4 := hS.cells.2.1; go_simp⟩) hH ?_
  change wpAnyH _ _ _ _ _ _ _ (Act.put _ (some 32) _) _
  simp only [Act.put, List.setIfInBounds_toArray, List.set_cons_zero, List.set_cons_succ]
  refine wt (i := 4) (v := (.pointer (some ⟨gt, 0, none⟩))) rfl (yl_move (by rfl) _ (by rfl) _ (by rfl)) hH ?_
  change wpAnyH _ _ _ _ _ _ _ (Act.put _ (some 33) _) _
  simp only [Act.put, List.setIfInBounds_toArray, List.set_cons_zero, List.set_cons_succ]
  refine wt (i := 5) (v := (.int .i64 (i : Int))) rfl (yl_move (by rfl) _ (by rfl) _ (by rfl)) hH ?_
  change wpAnyH _ _ _ _ _ _ _ (Act.put _ (some 34) _) _
  simp only [Act.put, List.setIfInBounds_toArray, List.set_cons_zero, List.set_cons_succ]
  refine wt (i := 6) (v := (.int .i64 (j : Int))) rfl (yl_move (by rfl) _ (by rfl) _ (by rfl)) hH ?_
  change wpAnyH _ _ _ _ _ _ _ (Act.put _ (some 35) _) _
  simp only [Act.put, List.setIfInBounds_toArray, List.set_cons_zero, List.set_cons_succ]
  refine wpAnyH_ready (rs := [7]) (by kernel_rfl) (by simp) (AllReadyH.cons rfl (fun K1 hK1 => ?_) AllReadyH.nil)
  go_simp
  refine (HK.out V1 hH).mono ?_
  rintro r V2 ⟨rfl, be⟩
  have X4 := hide (hH.next be)
  have R7 := hide ((be.block _ (lt_heap R6.out)).trans R6.out)
  have B4 := hide (below_next B3.out be)
  clear be
  refine hK1.out _ _ X4.out (fun hH => ?_)
  clear hK1
  refine wt (i := 8) (v := (.pointer (some ⟨ge, oe + i * 114, none⟩))) rfl (.inl ⟨by rfl, fun W _ => by go_simp⟩) hH ?_
  change wpAnyH _ _ _ _ _ _ _ (Act.put _ (some 37) _) _
  simp only [Act.put, List.setIfInBounds_toArray, List.set_cons_zero, List.set_cons_succ]
  refine wt (i := 9) (v := (.pointer (some ⟨ge, oe + i * 114, none⟩))) rfl (.inl ⟨by rfl, fun W _ => by go_simp⟩) hH ?_
  change wpAnyH _ _ _ _ _ _ _ (Act.put _ (some 38) _) _
  simp only [Act.put, List.setIfInBounds_toArray, List.set_cons_zero, List.set_cons_succ]
  refine wt (i := 10) (v := (.pointer (some ⟨ge, oe + i * 114, none⟩))) rfl (.inl ⟨by rfl, fun W _ => by go_simp⟩) hH ?_
  change wpAnyH _ _ _ _ _ _ _ (Act.put _ (some 39) _) _
  simp only [Act.put, List.setIfInBounds_toArray, List.set_cons_zero, List.set_cons_succ]
  refine wt (i := 11) (v := (.agg (hc a))) rfl (yl_load (by rfl) _ (by rfl) _ (hc a) (by rfl) (fun W hS => ld25_14 HI.out (LI.out W hS))) hH ?_
  change wpAnyH _ _ _ _ _ _ _ (Act.put _ (some 40) _) _
  simp only [Act.put, List.setIfInBounds_toArray, List.set_cons_zero, List.set_cons_succ]
  refine wpAnyH_ready (rs := [12]) (by kernel_rfl) (by simp) (AllReadyH.cons rfl (fun K1 hK1 => ?_) AllReadyH.nil)
  refine stepStoreA A25 (by rfl) _ _ (by rfl) (w.heap.size + 2) (hc a) CZ.out.1.1 CZ.out.1.2 (by rfl) (by rfl) (hc zeros) ZZ.out.1 _ R7.out ?_
  refine hK1.out _ _ (X4.out.put H0.out (by omega) _) (fun hH => ?_)
  clear hK1
  change wpAnyH _ _ _ _ _ _ _ (Act.put _ none _) _
  simp only [Act.put]
  refine wt (i := 13) (v := (.bool true)) rfl (.inl ⟨by rfl, fun W _ => by go_simp⟩) hH ?_
  change wpAnyH _ _ _ _ _ _ _ (Act.put _ (some 7) _) _
  simp only [Act.put, List.setIfInBounds_toArray, List.set_cons_zero, List.set_cons_succ]
  refine wpAnyH_done (by kernel_rfl) ?_ _
  go_wp2
  exact bodyPost_ret (v := .tuple #[.agg (hc a), .bool true]) (resA2K A25 Tryz.results229 _ _ (w.heap.size + 2) 46 _ CZ.out.1.1 rfl (setRow_heap _ _ _ _ _ _ R7.out) _ rfl) rfl ⟨rfl, below_setRow B4.out (by omega) _⟩
end
section
set_option maxRecDepth 10000
set_option maxHeartbeats 4000000
theorem fall_same (p : Value) (a : List UInt8) (ha : a.length = 32) (w : World) : Calls Tryz.prog 230 #[p, .agg (hc a), .agg (hc a)] w fun e w' => e = .returned (.slice none 0 0) ∧ Below w.heap.size w w' := by
  have s1 : (w.alloc (.cells (hc a) 46)).heap.size = w.heap.size + 1 := by simp
  have R3 := hide ((Below.heap_alloc _ (.cells (hc a) 46) _ (lt_heap (heap_alloc_last w (.cells (hc a) 46)))).trans (heap_alloc_last w (.cells (hc a) 46)))
  have R4 := hide (heap_alloc_last (w.alloc (.cells (hc a) 46)) (.cells (hc a) 46))
  have B1 := hide (((Below.refl w.heap.size w).alloc (Nat.le_refl _) (.cells (hc a) 46)).alloc (by rw [s1]; omega) (.cells (hc a) 46))
  have CZ : Hid ((hc a).size = 32) := by show _ = _; rw [hc_size, ha]
  have EQ : Hid (∀ W, (Op.equalIn 10000 46 (.agg (hc a)) (.agg (hc a))).run Tryz.prog W = .ok true W) := fun W => by
    rw [eqH14 _ _ ha ha]
    simp
  have HG : Tryz.prog.eqGuardType Tryz.prog.depth 46 = false := by kernel_rfl
  rw [s1] at R4
  generalize hc a = C at *
  go_enter Tryz.func230, Tryz.ntmps230
  go_upto_region 2 with ((with_reducible refine at_list ?_); refine wpList_boxA rfl _ rfl C rfl ?_)
  try rw [s1]
  clear s1
  generalize (w.alloc (.cells C 46)).alloc (.cells C 46) = W0 at *
  go_loopw [7] (fun l wr => l = .slice none 0 0 ∧ wr = W0) (fun _ _ => 0)
  case atStart => exact ⟨rfl, rfl⟩
  case round =>
    obtain ⟨rfl, rfl⟩ := hrel
    go_wp2_with ((with_reducible refine at_list ?_); first | refine wpList_loadS A25 _ rfl w.heap.size rfl C CZ.out 46 R3.out (by rfl) ?_ | refine wpList_loadS A25 _ rfl (w.heap.size + 1) rfl C CZ.out 46 R4.out (by rfl) ?_ | refine wpList_neq 46 _ _ _ rfl C C rfl rfl (by rfl) HG _ EQ.out ?_)
    go_ret
    exact ⟨rfl, B1.out⟩
theorem rangeP17 (y : Tno) {W : World} {g : Nat} (h : W.heap[g]? = some (.cells y.pub.toArray 53 (0, 0))) : W.rangeAt g 33 (cellsL y.h.prev) := by
  have r := rowAt _ h
  have q : W.rangeAt g 32 y.h.cells := fun j v hv => by
    have := r (32 + j) v (by
      rw [Tno.pub, List.getElem?_append_right (by rw [cellsL_len, y.hi]; omega), cellsL_len, y.hi, show 32 + j - 32 = j by omega, List.getElem?_append_left (List.getElem?_eq_some_iff.1 hv).1]; exact hv)
    rwa [Nat.zero_add] at this
  exact y.h.prevR q
def mz17 : Value → Nat
  | .slice none _ _ => 1
  | _ => 0
theorem fall_one {B w : World} {gt gm n : Nat} {D : DataW Unit} {ve : Value} {L : List Tno} {tu be bh : Nat} (h : Tm4 B w gt gm n D ve L tu be bh) (hm : L.length ≤ 1000000) (a b : List UInt8) (ha : a.length = 32) (hb : b.length = 32) (hne : b ≠ a) (j : Nat) (hj : j < L.length) (hat : D.atKey (.string b) (.lit (.int .i64 0)) = .lit (.int .i64 (j : Int))) (hh : Maps.has D (.string b) = true) (hp : L[j].h.prev = a) : Calls Tryz.prog 230 #[.pointer (some ⟨gt, 0, none⟩), .agg (hc b), .agg (hc a)] w fun e w' => ∃ v, e = .returned v ∧ OX KH w' v [⟨b, hb⟩] ∧ Below w.heap.size w w' := by
  have s1 : (w.alloc (.cells (hc b) 46)).heap.size = w.heap.size + 1 := by simp
  have r3 := (Below.heap_alloc _ (.cells (hc a) 46) _ (lt_heap (heap_alloc_last w (.cells (hc b) 46)))).trans (heap_alloc_last w (.cells (hc b) 46))
  have r4 := heap_alloc_last (w.alloc (.cells (hc b) 46)) (.cells (hc a) 46)
  have b1 := ((Below.refl w.heap.size w).alloc (Nat.le_refl _) (.cells (hc b) 46)).alloc (by rw [s1]; omega) (.cells (hc a) 46)
  rw [s1] at r4
  have R3 := hide r3
  have R4 := hide r4
  have B1 := hide b1
  have X1 := hide (h.next b1)
  have CZ : Hid (((hc a).size = 32 ∧ (hc a).all (·.oneCell') = true) ∧ (hc b).size = 32) := ⟨⟨by rw [hc_size, ha], hc_one a⟩, by rw [hc_size, hb]⟩
  have EQ1 : Hid (∀ W, (Op.equalIn 10000 46 (.agg (hc b)) (.agg (hc a))).run Tryz.prog W = .ok false W) := fun W => by
    rw [eqH14 _ _ hb ha]
    rw [show (b == a) = false by simpa using hne]
  have EQ2 : Hid (∀ W, (Op.equalIn 10000 46 (.agg (hc a)) (.agg (hc a))).run Tryz.prog W = .ok true W) := fun W => by
    rw [eqH14 _ _ ha ha]
    simp
  have HG : Tryz.prog.eqGuardType Tryz.prog.depth 46 = false := by kernel_rfl
  have HGt : Hid (∀ W, Tm4 B W gt gm n D ve L tu be bh → Calls Tryz.prog 15 #[.pointer (some ⟨gt, 0, none⟩), .agg (hc b)] W fun e w' => e = .returned (.tuple #[.agg L[j].pub.toArray, .bool true]) ∧ Below W.heap.size W w') := fun W q => getT_yes q b hb j hj hm hat hh
  have PR : Hid (∀ (W : World) (g : Nat), W.heap[g]? = some (.cells L[j].pub.toArray 53 (0, 0)) → W.rangeAt g 33 (cellsL a)) := fun W g e => by
    have := rangeP17 L[j] e
    rwa [hp] at this
  have PZ := hide (And.intro L[j].pubA_size L[j].pubA_all)
  have EB : Hid ((KH.enc ⟨b, hb⟩).toArray = hc b) := rfl
  have HA := hide ha
  clear b1 r3 r4 h hm hat hh hp hne
  generalize hX : (⟨b, hb⟩ : Id32) = X at *
  generalize L[j].pub.toArray = PP at *
  generalize hc b = C2 at *
  go_enter Tryz.func230, Tryz.ntmps230
  go_upto_region 2 with ((with_reducible refine at_list ?_); first | refine wpList_boxA rfl _ rfl C2 rfl ?_ | refine wpList_boxA rfl _ rfl (hc a) rfl ?_)
  try rw [s1]
  clear s1
  generalize (w.alloc (.cells C2 46)).alloc (.cells (hc a) 46) = W0 at *
  go_loopw [7] (fun l wr => (l = .slice none 0 0 ∧ wr = W0) ∨ Hid (OX KH wr l [X] ∧ Below w.heap.size w wr ∧ wr.heap[w.heap.size]? = some (.cells (hc a) 46 (0, 0)) ∧ wr.heap[w.heap.size + 1]? = some (.cells (hc a) 46 (0, 0)))) (fun l _ => mz17 l)
  case atStart => exact .inl ⟨rfl, rfl⟩
  case round =>
    rcases hrel with ⟨rfl, rfl⟩ | J
    · go_upto_region 4 with ((with_reducible refine at_list ?_); first | refine wpList_loadS A25 _ rfl w.heap.size rfl C2 CZ.out.2 46 R3.out (by rfl) ?_ | refine wpList_loadS A25 _ rfl (w.heap.size + 1) rfl (hc a) CZ.out.1.1 46 R4.out (by rfl) ?_ | refine wpList_neq 46 _ _ _ rfl C2 (hc a) rfl rfl (by rfl) HG _ EQ1.out ?_ | refine Ek.wpBs1 KH rfl _ rfl X (by rw [EB.out]; rfl) ?_ | (refine Ek.wpApp KH rfl _ _ rfl _ [] rfl (OX.nil _) _ 1 1 [X] rfl rfl (one_newX (E := KH) wr X) (by show (0 + 1) * 32 ≤ _; omega) (by show 0 + 1 ≤ _; unfold maxLen; omega) ?_; intro v' w' ho hon))
      obtain ⟨g9, c9, rfl⟩ := ho.form0 (by simp)
      have g := hon.grown
      have ba := (Below.refl wr.heap.size wr).alloc (Nat.le_refl _) (.cells (KH.enc X).toArray KH.e)
      have BL : Below wr.heap.size wr w' := ⟨g.os.trans ba.os, g.tape.trans ba.tape, g.output.trans ba.output, Nat.le_trans ba.size g.size, fun q hq => (g.block q (Nat.lt_of_lt_of_le hq ba.size) (fun e => by cases e)).trans (ba.block q hq)⟩
      have X2 := hide (X1.out.next BL)
      have B2 := hide (below_next B1.out BL)
      have R5 := hide ((BL.block _ (lt_heap R3.out)).trans R3.out)
      have R6 := hide ((BL.block _ (lt_heap R4.out)).trans R4.out)
      have HO := hide ho
      have NO : Hid (∀ k, (Value.slice (some ⟨g9, 0, none⟩) ([] ++ [X]).length c9).ownBlock = some k → k ≠ w.heap.size ∧ k ≠ w.heap.size + 1) := fun k hk => by
        have l1 := lt_heap R3.out
        have l2 := lt_heap R4.out
        have l3 := ba.size
        rcases hon.lies with e | ⟨c, e, hcc⟩
        · rw [e] at hk
          cases hk
        · rw [e] at hk
          cases hk
          omega
      clear ho hon g ba BL
      go_upto_region 5 with (first | (go_at_call 15; refine (HGt.out _ X2.out).mono ?_; rintro e W3 ⟨rfl, be⟩; have D3 := hide be; clear be) | ((with_reducible refine at_list ?_); first | refine wpList_loadS A25 _ rfl w.heap.size rfl C2 CZ.out.2 46 R5.out (by rfl) ?_ | refine wpList_allocA ANo rfl rfl ?_ | refine wpList_store_newA ANo rfl _ _ rfl _ rfl PP PZ.out.1 PZ.out.2 rfl rfl ?_))
      have b4 := below_next D3.out ((Below.refl W3.heap.size W3).alloc (Nat.le_refl _) (.cells PP 53))
      have R7 := hide (PR.out _ _ (heap_alloc_last W3 (.cells PP 53)))
      have R8 := hide ((b4.block _ (lt_heap R5.out)).trans R5.out)
      have R9 := hide ((b4.block _ (lt_heap R6.out)).trans R6.out)
      have HO4 := hide (HO.out.below b4)
      have B4 := hide (below_next B2.out b4)
      clear b4 D3 R5 R6 HO X2 B2
      generalize W3.alloc (.cells PP 53) = W4 at *
      generalize W3.heap.size = g4 at *
      go_wp2_with ((with_reducible refine at_list ?_); first | refine wpLoadH25 _ rfl g4 33 rfl a HA.out R7.out (by rfl) ?_ | refine wpList_storeA A25 rfl _ _ rfl w.heap.size (hc a) CZ.out.1.1 CZ.out.1.2 rfl rfl C2 CZ.out.2 46 R8.out ?_)
      simp only [Act.put, List.setIfInBounds_toArray, List.set_cons_zero, List.set_cons_succ]
      refine ⟨⟨_, _, _, _, _, _, _, _, _, _, _, _, _, _, _, _, _, _, _, .inr ⟨HO4.out.of_block fun k hk => setRow_other _ _ _ _ (NO.out k hk).1, below_setRow B4.out (Nat.le_refl _) _, setRow_heap _ _ _ _ _ _ R8.out, (setRow_other _ _ _ _ (by omega)).trans R9.out⟩, rfl⟩, ?_⟩
      exact Nat.zero_lt_one
    · have R8 := hide J.out.2.2.1
      have R9 := hide J.out.2.2.2
      go_wp2_with ((with_reducible refine at_list ?_); first | refine wpList_loadS A25 _ rfl w.heap.size rfl (hc a) CZ.out.1.1 46 R8.out (by rfl) ?_ | refine wpList_loadS A25 _ rfl (w.heap.size + 1) rfl (hc a) CZ.out.1.1 46 R9.out (by rfl) ?_ | refine wpList_neq 46 _ _ _ rfl (hc a) (hc a) rfl rfl (by rfl) HG _ EQ2.out ?_)
      go_ret
      exact ⟨_, rfl, J.out.1, J.out.2.1⟩
theorem revH_one (ao : Option Addr) (c : Nat) (w : World) : Calls Tryz.prog 231 #[.slice ao 1 c] w fun e w' => e = .returned (.tuple #[]) ∧ w' = w := by
  go_enter Tryz.func231, Tryz.ntmps231
  go_wp2
  go_loopw [2, 3] (fun i j wr => i = .int .i64 0 ∧ j = .int .i64 0 ∧ wr = w) (fun _ _ _ => 0)
  case atStart => exact ⟨rfl, rfl, rfl⟩
  case round =>
    obtain ⟨rfl, rfl, rfl⟩ := hrel
    go_wp2
    exact bodyPost_end (results_none (by kernel_rfl) _ _ _) rfl ⟨rfl, rfl⟩
theorem path_up {B w : World} {gt gm n : Nat} {D : DataW Unit} {ve : Value} {L : List Tno} {tu be bh : Nat} (h : Tm4 B w gt gm n D ve L tu be bh) (hm : L.length ≤ 1000000) (a b : List UInt8) (ha : a.length = 32) (hb : b.length = 32) (hne : b ≠ a) (i j : Nat) (hi : i < L.length) (hj : j < L.length) (h0 : L[i].ht = 0) (h1 : L[j].ht = 1) (hsk : L[j].sk = i) (hat1 : D.atKey (.string a) (.lit (.int .i64 0)) = .lit (.int .i64 (i : Int))) (hh1 : Maps.has D (.string a) = true) (hat2 : D.atKey (.string b) (.lit (.int .i64 0)) = .lit (.int .i64 (j : Int))) (hh2 : Maps.has D (.string b) = true) (hid : L[i].id = a) (hp : L[j].h.prev = a) : Calls Tryz.prog 172 #[.pointer (some ⟨gt, 0, none⟩), .agg (hc a), .agg (hc b)] w fun e w' => ∃ v, e = .returned (.tuple #[.slice none 0 0, v, .int .i64 0]) ∧ OX KH w' v [⟨b, hb⟩] ∧ Below w.heap.size w w' := by
  have s1 : (w.alloc (.cells (hc a) 46)).heap.size = w.heap.size + 1 := by simp
  have r3 := (Below.heap_alloc _ (.cells (hc b) 46) _ (lt_heap (heap_alloc_last w (.cells (hc a) 46)))).trans (heap_alloc_last w (.cells (hc a) 46))
  have r4 := heap_alloc_last (w.alloc (.cells (hc a) 46)) (.cells (hc b) 46)
  have b1 := ((Below.refl w.heap.size w).alloc (Nat.le_refl _) (.cells (hc a) 46)).alloc (by rw [s1]; omega) (.cells (hc b) 46)
  rw [s1] at r4
  have R3 := hide r3
  have R4 := hide r4
  have B1 := hide b1
  have X1 := hide (h.next b1)
  have CZ : Hid (((hc a).size = 32 ∧ (hc a).all (·.oneCell') = true) ∧ (hc b).size = 32) := ⟨⟨by rw [hc_size, ha], hc_one a⟩, by rw [hc_size, hb]⟩
  have HF : Hid (∀ W, Tm4 B W gt gm n D ve L tu be bh → Calls Tryz.prog 229 #[.pointer (some ⟨gt, 0, none⟩), .agg (hc a), .agg (hc b)] W fun e w' => e = .returned (.tuple #[.agg (hc a), .bool true]) ∧ Below W.heap.size W w') := fun W q => fork_at q hm a b ha hb i j hi hj h0 h1 hsk hat1 hh1 hat2 hh2 hid
  have H1 : Hid (∀ W, Tm4 B W gt gm n D ve L tu be bh → Calls Tryz.prog 230 #[.pointer (some ⟨gt, 0, none⟩), .agg (hc b), .agg (hc a)] W fun e w' => ∃ v, e = .returned v ∧ OX KH w' v [⟨b, hb⟩] ∧ Below W.heap.size W w') := fun W q => fall_one q hm a b ha hb hne j hj hat2 hh2 hp
  have H2 := hide (fun W => fall_same (.pointer (some ⟨gt, 0, none⟩)) a ha W)
  clear b1 r3 r4 h hm hne hi hj h0 h1 hsk hat1 hat2 hh1 hh2 hid hp
  generalize (⟨b, hb⟩ : Id32) = X at *
  generalize hc b = C2 at *
  generalize hc a = C at *
  go_enter Tryz.func172, Tryz.ntmps172
  go_upto_region 1 with ((with_reducible refine at_list ?_); first | refine wpList_boxA rfl _ rfl C rfl ?_ | refine wpList_boxA rfl _ rfl C2 rfl ?_)
  try rw [s1]
  clear s1
  generalize (w.alloc (.cells C 46)).alloc (.cells C2 46) = W0 at *
  go_upto_region 2 with (first | (go_at_call 229; refine (HF.out _ X1.out).mono ?_; rintro e W1 ⟨rfl, be⟩; have D1 := hide be; clear be) | ((with_reducible refine at_list ?_); first | refine wpList_loadS A25 _ rfl w.heap.size rfl C CZ.out.1.1 46 R3.out (by rfl) ?_ | refine wpList_loadS A25 _ rfl (w.heap.size + 1) rfl C2 CZ.out.2 46 R4.out (by rfl) ?_ | refine wpList_allocA A25 rfl rfl ?_ | refine wpList_store_newA A25 rfl _ _ rfl _ rfl C CZ.out.1.1 CZ.out.1.2 rfl rfl ?_))
  have b2 := below_next D1.out ((Below.refl W1.heap.size W1).alloc (Nat.le_refl _) (.cells C 46))
  have D2 := hide b2
  have R5 := hide (heap_alloc_last W1 (.cells C 46))
  have R6 := hide ((b2.block _ (lt_heap R3.out)).trans R3.out)
  have R7 := hide ((b2.block _ (lt_heap R4.out)).trans R4.out)
  have X2 := hide (X1.out.next b2)
  clear b2 D1 X1 HF R3 R4
  generalize W1.alloc (.cells C 46) = W2 at *
  generalize W1.heap.size = g2 at *
  go_upto_region 5 with (first | (go_at_call 230; refine (H1.out _ X2.out).mono ?_; rintro e W3 ⟨v3, rfl, ox3, be⟩; have D3 := hide be; have O3 := hide ox3; clear be ox3) | ((with_reducible refine at_list ?_); first | refine wpList_loadS A25 _ rfl (w.heap.size + 1) rfl C2 CZ.out.2 46 R7.out (by rfl) ?_ | refine wpList_loadS A25 _ rfl g2 rfl C CZ.out.1.1 46 R5.out (by rfl) ?_))
  obtain ⟨ao, cap, rfl⟩ := O3.out.form
  have R8 := hide ((D3.out.block _ (lt_heap R5.out)).trans R5.out)
  have R9 := hide ((D3.out.block _ (lt_heap R6.out)).trans R6.out)
  have B3 := hide (below_next B1.out (below_next D2.out D3.out))
  clear R5 R6 R7 D2 D3 X2 H1
  rw [show [X].length = 1 from rfl] at *
  go_wp2_with (first | (go_at_call 231; refine (revH_one _ _ _).mono ?_; rintro e W4 ⟨rfl, hw⟩; subst W4) | (go_at_call 230; refine (H2.out _).mono ?_; rintro e W5 ⟨rfl, be⟩; have D5 := hide be; clear be) | ((with_reducible refine at_list ?_); first | refine wpList_loadS A25 _ rfl w.heap.size rfl C CZ.out.1.1 46 R9.out (by rfl) ?_ | refine wpList_loadS A25 _ rfl g2 rfl C CZ.out.1.1 46 R8.out (by rfl) ?_))
  go_ret3
  exact ⟨_, rfl, O3.out.below D5.out, below_next B3.out D5.out⟩
end
end Go.Proofs.YtcoojkpimbddlaaGreatDoor
