/- Places, and places with their texts, taken out of a payload: the closures that remember the place ahead. Places with their texts, taken out of a payload. -/
import Derived.Test.YtkoidjaaojmcnaaGreatM44
namespace Go.Proofs.YtkoidjaaojmcnaaGreat
open Go.RowKit
open Go.Deep
set_option linter.unusedVariables false
set_option linter.unusedSimpArgs false
/-- A payload's parts at a block, and the place ahead at another one. -/
structure Pk (W : World) (b gp c : Nat) (t : ByteArray) (R : List UInt8) (a : Int) : Prop where
  rd : Gr W b t R
  px : W.heap[gp]? = some (.cells #[.pointer (some ⟨b, 0, none⟩), .string t] 85 (0, 0))
  ac : W.heap[c]? = some (.cells #[.int .i64 a] 3 (0, 0))
section
variable {W W' : World} {b gp c : Nat} {t : ByteArray} {R R' : List UInt8} {a a' : Int}
theorem Pk.read (h : Pk W b gp c t R a) (hg : gp ≠ b) (hc : c ≠ b) (g : Gr W' b t R') (f : Rfr b W W') : Pk W' b gp c t R' a := ⟨g, (f.block _ (lt_heap h.px) hg).trans h.px, (f.block _ (lt_heap h.ac) hc).trans h.ac⟩
theorem Pk.set (h : Pk W b gp c t R a) (hb : b ≠ c) (hg : gp ≠ c) : Pk (W.setCell ⟨c, 0, none⟩ (.int .i64 a')) b gp c t R a' := by
  refine ⟨h.rd.at (blk_setCell_other _ _ _ _ (fun e => hb e)), (blk_setCell_other _ _ _ _ (fun e => hg e)).trans h.px, ?_⟩
  exact heap_setCell_same W c 0 _ _ (.int .i64 a') h.ac
theorem Pk.cell (h : Pk W b gp c t R a) : W.cell? ⟨c, 0, none⟩ = some (.int .i64 a) := by rw [cell_of_row _ _ _ _ _ _ h.ac]; rfl
theorem Pk.frozen (h : Pk W b gp c t R a) : W.frozen? ⟨c, 0, none⟩ = false := frozen_of_row W _ _ _ _ h.ac
end
section
set_option maxRecDepth 10000
set_option maxHeartbeats 1000000
theorem cl_place {W : World} {b gp c : Nat} {t : ByteArray} {Y : List UInt8} {a p : Int} (ha : -1 ≤ a) (hap : a < p) (hp : p ≤ 65535) (hs : t.size ≤ maxLen) (n1 : gp ≠ b) (n2 : c ≠ b) (n3 : gp ≠ c) (h : Pk W b gp c t (gapL a p ++ Y) a) :
    Calls Tryz.prog 92 #[.pointer (some ⟨gp, 0, none⟩), .pointer (some ⟨c, 0, none⟩)] W fun e w' => e = .returned (.int .i64 p) ∧ Pk w' b gp c t Y p ∧ Rfk (fun j => j = b ∨ j = c ∨ j = gp) W w' := by
  have HP : Hid (Calls Tryz.prog 93 #[.agg #[.pointer (some ⟨b, 0, none⟩), .string t], .int .i64 a] W fun e w' => e = .returned (.int .i64 p) ∧ Gr w' b t Y ∧ Rfr b W w') := place_on a p ha hap hp h.rd hs
  have H := hide h
  have c0 := h.cell
  clear h ha hap hp hs
  go_enter Tryz.func92, Tryz.ntmps92
  go_upto_region 2 with (first | (go_at_call 93; refine HP.out.mono ?_; rintro r W1 ⟨rfl, g1, f1⟩; have H1 := hide (H.out.read n1 n2 g1 f1); have F1 := hide f1; have c1 := H1.out.cell; have f2 := H1.out.frozen; clear g1 f1) | ((with_reducible refine at_list ?_); refine wpList_loadS APa _ rfl gp rfl #[.pointer (some ⟨b, 0, none⟩), .string t] rfl 85 H.out.px (by rfl) ?_))
  have H2 := hide (H1.out.set (a' := p) (Ne.symm n2) n3)
  have F2 : Hid (Rfk (fun j => j = b ∨ j = c ∨ j = gp) W (W1.setCell ⟨c, 0, none⟩ (.int .i64 p))) := (Rfk.of F1.out (.inl rfl)).trans (Rfk.of (Rfr.setCell c W1 0 _) (.inr (.inl rfl)))
  clear c0 c1 f2 H1 F1 H HP
  generalize W1.setCell ⟨c, 0, none⟩ (.int .i64 p) = W2 at *
  have c2 := H2.out.cell
  go_wp2
  go_ret
  exact ⟨rfl, H2.out, F2.out⟩
theorem list_place (L : List Int) (b gp c : Nat) (t : ByteArray) (Y : List UInt8) (hn : L.length ≤ 500) (hr : riseP (-1) L) (hs : t.size ≤ maxLen) (w : World) (n1 : gp ≠ b) (n2 : c ≠ b) (n3 : gp ≠ c) (h0 : Pk w b gp c t (countL L.length ++ (gapsL (-1) L ++ Y)) (-1)) :
    Calls Tryz.prog 91 #[pv b t, .int .u64 500, .func (.func 92) #[] #[.pointer (some ⟨gp, 0, none⟩), .pointer (some ⟨c, 0, none⟩)]] w fun e w' => ∃ v, e = .returned v ∧ OX KP w' v L ∧ (∀ g, v.ownBlock = some g → w.heap.size ≤ g) ∧ Gr w' b t Y ∧ w'.heap[gp]? = w.heap[gp]? ∧ Rfk (fun j => j = b ∨ j = c ∨ j = gp) w w' := by
  refine (take_int (fun j => j = b ∨ j = c ∨ j = gp) (fun k W => Pk W b gp c t (gapsL (lastP (-1) (L.take k)) (L.drop k) ++ Y) (lastP (-1) (L.take k))) L 92 #[] #[.pointer (some ⟨gp, 0, none⟩), .pointer (some ⟨c, 0, none⟩)] b t (fun k => gapsL (lastP (-1) (L.take k)) (L.drop k) ++ Y) 500 hn (by omega) hs (.inl rfl) (fun k W g => g.rd)
    (fun k W W' g hb => ⟨g.rd.at (hb b (.inl rfl)), (hb gp (.inr (.inr rfl))).trans g.px, (hb c (.inr (.inl rfl))).trans g.ac⟩) (fun W => by kernel_rfl) (fun k hk W g => ?_) w (fun j hj => ?_) (by simpa [lastP] using h0.rd) (fun W g hb => ?_)).mono ?_
  · obtain ⟨x, hx, e⟩ := drop_at hk
    have hxk : L[k] = x := Option.some.inj ((List.getElem?_eq_getElem hk).symm.trans hx)
    have rs := rise_at L (-1) hr k hk
    rw [hxk] at rs
    have e2 : lastP (-1) (L.take (k + 1)) = x := by rw [List.take_add_one, hx]; exact lastP_app _ _ _
    simp only [e, gapsL, List.append_assoc] at g
    refine (show Calls Tryz.prog 92 #[.pointer (some ⟨gp, 0, none⟩), .pointer (some ⟨c, 0, none⟩)] W _ from cl_place rs.2.2 rs.1 rs.2.1 hs n1 n2 n3 g).mono ?_
    rintro r W' ⟨rfl, g1, f1⟩
    refine ⟨⟨x, hx, rfl⟩, ?_, f1⟩
    rw [e2]
    exact g1
  · rcases hj with rfl | rfl | rfl
    · exact h0.rd.lt
    · exact lt_heap h0.ac
    · exact lt_heap h0.px
  · refine ⟨g, (hb gp (.inr (.inr rfl)) n1).trans h0.px, ?_⟩
    have := (hb c (.inr (.inl rfl)) n2).trans h0.ac
    simpa [lastP] using this
  · rintro e W' ⟨v, rfl, o, far, g, f⟩
    refine ⟨v, rfl, o, far, ?_, g.px.trans h0.px.symm, f⟩
    simpa [gapsL] using g.rd
end
end Go.Proofs.YtkoidjaaojmcnaaGreat
namespace Go.Proofs.YtkoidjaaojmcnaaGreat
open Go.RowKit
open Go.Deep
set_option linter.unusedVariables false
set_option linter.unusedSimpArgs false
theorem AFl : Arr 77 2 #[.int .i64 0, .string ⟨#[]⟩] := ⟨.inr ⟨_, Tryz.underlying77⟩, by kernel_rfl, fun w => by kernel_rfl, fun w => by kernel_rfl, rfl⟩
theorem run_bldFd (p : Int) (x : ByteArray) (w : World) : (Instr.build 77 #[(0, .int .i64 p), (1, .string x)]).run Tryz.prog w = .ok (.agg #[.int .i64 p, .string x]) w := by kernel_rfl
theorem Rfk.setRow {K : Nat → Prop} {w w1 : World} (h : Rfk K w w1) (g : Nat) (hg : w.heap.size ≤ g) (cs : Array Value) : Rfk K w (w1.setRow g cs) :=
  ⟨h.os, h.tape, h.output, by simpa using h.size, fun k hk hn => (setRow_other _ _ _ _ (by omega)).trans (h.block k hk hn)⟩
section
set_option maxRecDepth 10000
set_option maxHeartbeats 2000000
theorem cl_filled {W : World} {b gp c : Nat} {t : ByteArray} {Y : List UInt8} {a p : Int} {x : ByteArray} (hx : x.size ≤ 4096) (ha : -1 ≤ a) (hap : a < p) (hp : p ≤ 65535) (hs : t.size ≤ maxLen) (n1 : gp ≠ b) (n2 : c ≠ b) (n3 : gp ≠ c) (h : Pk W b gp c t (gapL a p ++ (rawL x ++ Y)) a) :
    Calls Tryz.prog 121 #[.pointer (some ⟨gp, 0, none⟩), .pointer (some ⟨c, 0, none⟩)] W fun e w' => e = .returned (.agg #[.int .i64 p, .string x]) ∧ Pk w' b gp c t Y p ∧ Rfk (fun j => j = b ∨ j = c ∨ j = gp) W w' := by
  have b1 := (Below.refl W.heap.size W).alloc (Nat.le_refl _) (.cells #[.int .i64 0, .string ⟨#[]⟩] 77)
  have r1 := heap_alloc_last W (.cells #[.int .i64 0, .string ⟨#[]⟩] 77)
  have LG := hide (And.intro h.rd.lt (And.intro (lt_heap h.px) (lt_heap h.ac)))
  have h0 : Pk (W.alloc (.cells #[.int .i64 0, .string ⟨#[]⟩] 77)) b gp c t (gapL a p ++ (rawL x ++ Y)) a := ⟨h.rd.below b1, (b1.block _ (lt_heap h.px)).trans h.px, (b1.block _ (lt_heap h.ac)).trans h.ac⟩
  have F0 := hide (Rfk.below (K := fun j => j = b ∨ j = c ∨ j = gp) b1)
  have LE := hide (Nat.le_refl W.heap.size)
  have HR : Hid (∀ W, Gr W b t (rawL x ++ Y) → Calls Tryz.prog 94 #[.agg #[.pointer (some ⟨b, 0, none⟩), .string t]] W fun e w' => e = .returned (.string x) ∧ Gr w' b t Y ∧ Rfr b W w') := fun W g => raw_on x hx g hs
  have HP : Hid (∀ W, Gr W b t (gapL a p ++ (rawL x ++ Y)) → Calls Tryz.prog 93 #[.agg #[.pointer (some ⟨b, 0, none⟩), .string t], .int .i64 a] W fun e w' => e = .returned (.int .i64 p) ∧ Gr w' b t (rawL x ++ Y) ∧ Rfr b W w') := fun W g => place_on a p ha hap hp g hs
  have H := hide h0
  have R1 := hide r1
  clear h h0 r1 b1 ha hap hp hs hx
  go_enter Tryz.func121, Tryz.ntmps121
  go_upto_region 1 with ((with_reducible refine at_list ?_); refine wpList_allocA AFl rfl rfl ?_)
  simp only [Act.put, List.setIfInBounds_toArray, List.set_cons_zero, List.set_cons_succ]
  generalize W.alloc (.cells #[.int .i64 0, .string ⟨#[]⟩] 77) = A at *
  have c0 := H.out.cell
  go_upto_region 2 with (first | (go_at_call 93; refine (HP.out _ H.out.rd).mono ?_; rintro r W1 ⟨rfl, g1, f1⟩; have H1 := hide (H.out.read n1 n2 g1 f1); have F1 := hide f1; have c1 := H1.out.cell; have f2 := H1.out.frozen; clear g1 f1) | ((with_reducible refine at_list ?_); refine wpList_loadS APa _ rfl gp rfl #[.pointer (some ⟨b, 0, none⟩), .string t] rfl 85 H.out.px (by rfl) ?_))
  have H2 := hide (H1.out.set (a' := p) (Ne.symm n2) n3)
  have F2 : Hid (Rfk (fun j => j = b ∨ j = c ∨ j = gp) A (W1.setCell ⟨c, 0, none⟩ (.int .i64 p))) := (Rfk.of F1.out (.inl rfl)).trans (Rfk.of (Rfr.setCell c W1 0 _) (.inr (.inl rfl)))
  have R2 : Hid ((W1.setCell ⟨c, 0, none⟩ (.int .i64 p)).heap[W.heap.size]? = some (.cells #[.int .i64 0, .string ⟨#[]⟩] 77 (0, 0))) := (F2.out.block _ (lt_heap R1.out) (by have := LG.out; omega)).trans R1.out
  have F3 := hide (F0.out.trans F2.out)
  clear c0 c1 f2 H1 F1 H HP R1 F0 F2
  generalize W1.setCell ⟨c, 0, none⟩ (.int .i64 p) = W2 at *
  have S2 : Hid (W2.drew.heap[gp]? = some (.cells #[.pointer (some ⟨b, 0, none⟩), .string t] 85 (0, 0)) ∧ W2.drew.cell? ⟨c, 0, none⟩ = some (.int .i64 p)) := ⟨H2.out.px, H2.out.cell⟩
  have G2 : Hid (Pk W2.drew b gp c t (rawL x ++ Y) p) := ⟨H2.out.rd, H2.out.px, H2.out.ac⟩
  have R3 : Hid (W2.drew.heap[W.heap.size]? = some (.cells #[.int .i64 0, .string ⟨#[]⟩] 77 (0, 0))) := R2.out
  have F4 : Hid (Rfk (fun j => j = b ∨ j = c ∨ j = gp) W W2.drew) := F3.out.trans ⟨rfl, rfl, rfl, Nat.le_refl _, fun _ _ _ => rfl⟩
  clear H2 R2 F3
  refine wp_region_held_drew (S := fun W => W.heap[gp]? = some (.cells #[.pointer (some ⟨b, 0, none⟩), .string t] 85 (0, 0)) ∧ W.cell? ⟨c, 0, none⟩ = some (.int .i64 p)) (by kernel_rfl) S2.out (fun hH => ?_)
  generalize W2.drew = W3 at *
  refine wpAnyH_take (i := 0) (v := (.int .i64 p)) rfl (by kernel_rfl) (by kernel_rfl) (by kernel_rfl) (fun _ _ _ h => h) (.inl ⟨by rfl, fun W hS => by have c4 := hS.2; go_simp⟩) hH ?_
  change wpAnyH _ _ _ _ _ _ _ (Act.put _ (some 6) _) _
  simp only [Act.put, List.setIfInBounds_toArray, List.set_cons_zero, List.set_cons_succ]
  refine wpAnyH_take (i := 1) (v := (.agg #[.pointer (some ⟨b, 0, none⟩), .string t])) rfl (by kernel_rfl) (by kernel_rfl) (by kernel_rfl) (fun _ _ _ h => h) (yl_load (by rfl) _ (by rfl) _ #[.pointer (some ⟨b, 0, none⟩), .string t] (by rfl) (fun W hS => ld_row APa rfl hS.1)) hH ?_
  change wpAnyH _ _ _ _ _ _ _ (Act.put _ (some 7) _) _
  simp only [Act.put, List.setIfInBounds_toArray, List.set_cons_zero, List.set_cons_succ]
  refine wpAnyH_ready (rs := [2]) (by kernel_rfl) (by simp) (AllReadyH.cons rfl (fun K1 hK1 => ?_) AllReadyH.nil)
  go_simp
  refine (HR.out W3 G2.out.rd).mono ?_
  rintro e W4 ⟨rfl, g1, f1⟩
  have G4 := hide (G2.out.read n1 n2 g1 f1)
  have R4 := hide ((f1.block _ (lt_heap R3.out) (by have := LG.out; omega)).trans R3.out)
  have F5 := hide (F4.out.trans (Rfk.of f1 (.inl rfl)))
  clear g1 f1
  refine hK1.out _ _ ⟨G4.out.px, G4.out.cell⟩ (fun hH => ?_)
  clear hK1
  refine wpAnyH_take (i := 3) (v := (.agg #[.int .i64 p, .string x])) rfl (by kernel_rfl) (by kernel_rfl) (by kernel_rfl) (fun _ _ _ h => h) (yl_build (by rfl) _ (by rfl) #[(0, .int .i64 p), (1, .string x)] _ (by simp only [List.map_toArray, List.map_cons, List.map_nil]; rfl) (run_bldFd p x)) hH ?_
  change wpAnyH _ _ _ _ _ _ _ (Act.put _ (some 9) _) _
  simp only [Act.put, List.setIfInBounds_toArray, List.set_cons_zero, List.set_cons_succ]
  refine wpAnyH_ready (rs := [4]) (by kernel_rfl) (by simp) (AllReadyH.cons rfl (fun K1 hK1 => ?_) AllReadyH.nil)
  refine stepStoreA AFl (by rfl) _ _ (by rfl) W.heap.size #[.int .i64 p, .string x] rfl (all_oneCell_toArray (Fd.one ⟨p, x⟩)) (by rfl) (by rfl) #[.int .i64 0, .string ⟨#[]⟩] rfl 77 R4.out ?_
  have hb : ∀ k, k ≠ W.heap.size → (W4.setRow W.heap.size #[.int .i64 p, .string x]).heap[k]? = W4.heap[k]? := fun k hk => setRow_other _ _ _ _ hk
  have lg := LG.out
  have px := (hb gp (by omega)).trans G4.out.px
  have pc := (hb c (by omega)).trans G4.out.ac
  have G5 : Hid (Pk (W4.setRow W.heap.size #[.int .i64 p, .string x]) b gp c t Y p) := ⟨G4.out.rd.at (hb b (by omega)), px, pc⟩
  have F6 : Hid (Rfk (fun j => j = b ∨ j = c ∨ j = gp) W (W4.setRow W.heap.size #[.int .i64 p, .string x])) := F5.out.setRow W.heap.size (Nat.le_refl _) _
  have R5 := hide (setRow_heap W4 W.heap.size _ #[.int .i64 p, .string x] _ _ R4.out)
  clear px pc hb lg
  refine hK1.out _ _ ⟨G5.out.px, G5.out.cell⟩ (fun hH => ?_)
  clear hK1
  refine wpAnyH_done (by kernel_rfl) ?_ _
  clear hH
  go_wp2
  refine bodyPost_ret (resA AFl rfl _ _ _ _ #[.int .i64 p, .string x] rfl rfl R5.out) rfl ?_
  exact ⟨rfl, G5.out, F6.out⟩
theorem list_filled (L : List Fd) (b gp c : Nat) (t : ByteArray) (Y : List UInt8) (hn : L.length ≤ 500) (hr : riseP (-1) (L.map Fd.place)) (hx4 : ∀ x ∈ L, x.raw.size ≤ 4096) (hs : t.size ≤ maxLen) (w : World) (n1 : gp ≠ b) (n2 : c ≠ b) (n3 : gp ≠ c) (h0 : Pk w b gp c t (countL L.length ++ (fillL (-1) L ++ Y)) (-1)) :
    Calls Tryz.prog 120 #[pv b t, .int .u64 500, .func (.func 121) #[] #[.pointer (some ⟨gp, 0, none⟩), .pointer (some ⟨c, 0, none⟩)]] w fun e w' => ∃ v, e = .returned v ∧ OX KF w' v L ∧ (∀ g, v.ownBlock = some g → w.heap.size ≤ g) ∧ Gr w' b t Y ∧ w'.heap[gp]? = w.heap[gp]? ∧ Rfk (fun j => j = b ∨ j = c ∨ j = gp) w w' := by
  refine (take_filled (fun j => j = b ∨ j = c ∨ j = gp) (fun k W => Pk W b gp c t (fillL (lastP (-1) ((L.take k).map Fd.place)) (L.drop k) ++ Y) (lastP (-1) ((L.take k).map Fd.place))) L 121 #[] #[.pointer (some ⟨gp, 0, none⟩), .pointer (some ⟨c, 0, none⟩)] b t (fun k => fillL (lastP (-1) ((L.take k).map Fd.place)) (L.drop k) ++ Y) 500 hn (by omega) hs (.inl rfl) (fun k W g => g.rd)
    (fun k W W' g hb => ⟨g.rd.at (hb b (.inl rfl)), (hb gp (.inr (.inr rfl))).trans g.px, (hb c (.inr (.inl rfl))).trans g.ac⟩) (fun W => by kernel_rfl) (fun k hk W g => ?_) w (fun j hj => ?_) (by simpa [lastP] using h0.rd) (fun W g hb => ?_)).mono ?_
  · obtain ⟨x, hx, e⟩ := drop_at hk
    have hxk : L[k] = x := Option.some.inj ((List.getElem?_eq_getElem hk).symm.trans hx)
    have rs := rise_at (L.map Fd.place) (-1) hr k (by simpa using hk)
    rw [List.getElem_map, hxk, ← List.map_take] at rs
    have e2 : lastP (-1) ((L.take (k + 1)).map Fd.place) = x.place := by rw [List.take_add_one, hx, List.map_append]; exact lastP_app _ _ _
    simp only [e, fillL, List.append_assoc] at g
    refine (show Calls Tryz.prog 121 #[.pointer (some ⟨gp, 0, none⟩), .pointer (some ⟨c, 0, none⟩)] W _ from cl_filled (hx4 x (List.mem_of_getElem? hx)) rs.2.2 rs.1 rs.2.1 hs n1 n2 n3 g).mono ?_
    rintro r W' ⟨rfl, g1, f1⟩
    refine ⟨⟨x, hx, rfl⟩, ?_, f1⟩
    rw [e2]
    exact g1
  · rcases hj with rfl | rfl | rfl
    · exact h0.rd.lt
    · exact lt_heap h0.ac
    · exact lt_heap h0.px
  · refine ⟨g, (hb gp (.inr (.inr rfl)) n1).trans h0.px, ?_⟩
    have := (hb c (.inr (.inl rfl)) n2).trans h0.ac
    simpa [lastP] using this
  · rintro e W' ⟨v, rfl, o, far, g, f⟩
    refine ⟨v, rfl, o, far, ?_, g.px.trans h0.px.symm, f⟩
    simpa [fillL] using g.rd
end
end Go.Proofs.YtkoidjaaojmcnaaGreat
