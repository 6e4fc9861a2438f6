/- All levels: a list of lists of ids, and the contract of Levels. -/
import Derived.Test.YthlaibkdcebekaaDoorMo
namespace Go.Proofs.YthlaibkdcebekaaDoor
open Go.RowKit
open Go.Deep
theorem EL.inf : (Tryd.prog.info? 22).map (fun i => (i.zero.map (·.cells.size), i.size, i.bytes)) = some (some 1, 1, 24) := by kernel_rfl
theorem EL.parts : ∃ i z, Tryd.prog.info? 22 = some i ∧ i.zero = some z ∧ z.cells.size = 1 ∧ i.size = 1 ∧ i.bytes = 24 := by
  have h := EL.inf
  cases hi : Tryd.prog.info? 22 with
  | none => rw [hi] at h; cases h
  | some i =>
    rw [hi] at h
    simp only [Option.map_some, Option.some.injEq, Prod.mk.injEq] at h
    obtain ⟨h1, h2, h3⟩ := h
    cases hz : i.zero with
    | none => rw [hz] at h1; cases h1
    | some z =>
      rw [hz] at h1
      exact ⟨i, z, rfl, hz, by simpa using h1, h2, h3⟩
/-- Lists of ids in a list of the program's own: the levels of L, as many as there are. -/
structure Ls (w W : World) (v : Value) (vs : List Value) (L : List (List UInt8)) : Prop where
  row : W.ownsRow 0 22 1 v vs.length vs
  bel : Below w.heap.size w W
  far : ∀ g, v.ownBlock = some g → w.heap.size ≤ g
  own : ∀ i x, vs[i]? = some x → OH 39 W x (lv L i)
section
variable {w W W' : World} {v v' : Value} {vs : List Value} {L : List (List UInt8)}
theorem row_block {e : TypeId} {n : Nat} {xs : List Value} (h : W.ownsRow 0 e 1 v n xs) (hb : ∀ g, v.ownBlock = some g → W'.heap[g]? = W.heap[g]?) : W'.ownsRow 0 e 1 v n xs := by
  obtain ⟨h2, h3⟩ := h
  refine ⟨h2, ?_⟩
  rcases h3 with ⟨rfl, h0⟩ | ⟨g, cap, cur, rfl, h4, hg, h5⟩
  · exact .inl ⟨rfl, h0⟩
  · exact .inr ⟨g, cap, cur, rfl, h4, (hb g rfl).trans hg, h5⟩
theorem Ls.next (j : Ls w W v vs L) (h : Below W.heap.size W W') : Ls w W' v vs L :=
  ⟨row_block j.row fun g hg => h.block _ (j.row.lt g hg).2, below_next j.bel h, j.far, fun i x hx => (j.own i x hx).below h⟩
theorem Ls.drew (j : Ls w W v vs L) : Ls w W.drew v vs L := j.next (Below.refl _ _).drew
/-- A list of ids lies in another block than the list of lists. -/
theorem rows_apart {n : Nat} {xs : List Value} {x : Value} {M : List (List UInt8)} (h : W.ownsRow 0 22 1 v n xs) (o : OH 39 W x M) : ∀ g, x.ownBlock = some g → v.ownBlock ≠ some g := by
  intro g hx hv
  rcases h.2 with ⟨rfl, _⟩ | ⟨g1, cap, cur, rfl, _, hg, _⟩
  · cases hv
  · rcases o.2.2 with ⟨rfl, _⟩ | ⟨g2, cap2, cur2, rfl, _, hg2, _⟩
    · cases hx
    · cases hx
      cases hv
      rw [hg] at hg2
      injection hg2 with hg2
      injection hg2 with _ e2
      exact absurd e2 (by decide)
theorem Ls.onto (j : Ls w W v vs L) (h : Onto W W' v v') {x : Value} (hr : W'.ownsRow 0 22 1 v' (vs.length + 1) (vs ++ [x])) (hx : OH 39 W x (lv L vs.length)) : Ls w W' v' (vs ++ [x]) L := by
  have kp : ∀ (y : Value) (M : List (List UInt8)), OH 39 W y M → OH 39 W' y M := fun y M o => o.of_block fun g hg => h.grown.block g (o.lt g hg) (fun e => rows_apart j.row o g hg e.symm)
  refine ⟨by simpa using hr, j.bel.trans (h.below j.bel.size j.far), h.far j.bel.size j.far, fun i y hy => ?_⟩
  rcases Nat.lt_or_ge i vs.length with hi | hi
  · rw [List.getElem?_append_left hi] at hy
    exact kp _ _ (j.own i y hy)
  · rw [List.getElem?_append_right hi] at hy
    have h0 : i - vs.length = 0 := by
      have := (List.getElem?_eq_some_iff.1 hy).1
      simp at this
      omega
    rw [h0] at hy
    cases hy
    rw [show i = vs.length by omega]
    exact kp _ _ hx
theorem Ls.new {W0 : World} {x : Value} (b : Below w.heap.size w W0) (hx : OH 39 W0 x L) : Ls w (W0.alloc (.cells #[x] 22)) (.slice (some ⟨W0.heap.size, 0, none⟩) 1 1) [x] L :=
  ⟨⟨rfl, .inr ⟨W0.heap.size, 1, #[x], rfl, Nat.zero_le _, heap_alloc_last _ _, Nat.le_refl _, by unfold maxLen; omega, rfl, rfl⟩⟩, b.alloc b.size _, fun g hg => by cases hg; exact b.size, fun i y hy => by
    rcases i with _ | i
    · cases hy
      exact hx.alloc _
    · simp at hy⟩
/-- The place of a level. -/
theorem Ls.cell (j : Ls w W v vs L) {g : Nat} (hg : v.ownBlock = some g) {i : Nat} {x : Value} (hx : vs[i]? = some x) : W.cell? ⟨g, i, none⟩ = some x := by
  have := j.row.cells hg i x hx
  have hadd : (⟨g, 0, none⟩ : Addr).add i = ⟨g, i, none⟩ := by unfold Addr.add; split <;> simp_all
  rw [hadd] at this
  exact this
theorem Ls.form (j : Ls w W v vs L) (h0 : 0 < vs.length) : ∃ g cap, v = .slice (some ⟨g, 0, none⟩) vs.length cap ∧ vs.length ≤ cap := by
  rcases j.row.2 with ⟨_, h⟩ | ⟨g, cap, cur, rfl, _, _, h5, _⟩
  · omega
  · exact ⟨g, cap, rfl, h5⟩
theorem EL.app (j : Ls w W v vs L) {ty : TypeId} (ad : Addr) (x : Value) (h1 : x.oneCell' = true) (hc1 : W.cell? ad = some x) (hx : OH 39 W x (lv L vs.length)) (hn : vs.length ≤ 1000) :
    ∃ v' W', (Builtin.append_ #[54, 54] ty #[v, .slice (some ad) 1 1]).run Tryd.prog W = .ok v' W' ∧ Ls w W' v' (vs ++ [x]) L := by
  obtain ⟨i0, z, hi, hz0, hzs, hz1, hz2⟩ := EL.parts
  obtain ⟨v', w', hr, h2, h3, _, h5⟩ := run_append_own_at (P := Tryd.prog) W 0 54 ty 22 i0 z 1 24 Tryd.underlying54 hi hz0 hz1 hz2 hzs (by decide) v vs.length vs j.row ad 1 1 [x] rfl
    (fun k u hu => by
      rcases k with _ | k
      · cases hu
        rw [show ad.add 0 = ad by unfold Addr.add; split <;> simp_all]
        exact hc1
      · simp at hu)
    (fun u hu => by simp at hu; rw [hu]; exact h1) (by unfold maxLen; omega) (by omega) (Nat.zero_le _)
  refine ⟨v', w', hr, j.onto ⟨h3, ?_⟩ h2 hx⟩
  rcases h5 with h5 | h5
  · exact .inl h5
  · exact .inr ⟨_, h5, Nat.le_refl _⟩
end
section
variable {w W : World} {ops : Array Oper} {rest : List Oper} {o : Oper} {a : Act} {Q : Exit → Act → World → Prop} {v : Value} {vs : List Value} {L : List (List UInt8)}
theorem EL.wpApp (hgd : o.guard = none) (s y : Operand)
    (ho : o.op = .call { callee := .builtin .append, args := #[s, y], argTypes := #[54, 54] })
    (hs : a.eval s = v) (j : Ls w W v vs L) (ad : Addr) (hy : a.eval y = .slice (some ad) 1 1) (x : Value) (h1 : x.oneCell' = true) (hc1 : W.cell? ad = some x) (hx : OH 39 W x (lv L vs.length)) (hn : vs.length ≤ 1000)
    (h : ∀ v' W', Ls w W' v' (vs ++ [x]) L → wpList Tryd.prog ops Q rest (a.put o.dst v') W') :
    wpList Tryd.prog ops Q (o :: rest) a W := by
  refine wpList_plain hgd fun K hK => ?_
  obtain ⟨v', w', hr, h2⟩ := EL.app (ty := o.type) j ad x h1 hc1 hx hn
  unfold Oper.wp execOp
  simp only [ho, resolve, invoke, builtin, Sem.run_bind, Sem.run_pure, Result.andThen_ok, List.map_toArray, List.map_cons, List.map_nil, hs, hy, hr]
  exact hK _ _ (h v' w' h2)
end
section
set_option maxRecDepth 10000
set_option maxHeartbeats 4000000
theorem levels_nil (cap : Nat) (ao : Option Addr) (w : World) : Calls Tryd.prog 19 #[.slice ao 0 cap] w fun e w' => e = .returned (.slice none 0 0) ∧ w' = w := by
  go_enter Tryd.func19, Tryd.ntmps19
  go_wp2
  go_ret
  exact ⟨rfl, rfl⟩
theorem levels_any (v : Value) (L : List (List UInt8)) (w : World) (hL : LH w v L) (h0 : 0 < L.length) (hn : L.length < 4294967296) (hK : Kg w) : Calls Tryd.prog 19 #[v] w fun e w' => ∃ v' vs, e = .returned v' ∧ Ls w w' v' vs L ∧ vs.length = dp L.length + 1 := by
  have HC := hide (clone_any6 v L w hL h0 hn)
  obtain ⟨ao, cap, rfl⟩ := hL.form
  have hne : ((L.length : Int) == 0) = false := by rw [beq_eq_false_iff_ne]; omega
  have KW : Hid (∀ W, Below w.heap.size w W → Kg W) := fun W h => hK.next h
  have HN := hide (And.intro h0 hn)
  clear hL h0 hn hK
  go_enter Tryd.func19, Tryd.ntmps19
  go_upto_region 4 with (first | (go_at_call 33; refine HC.out.mono ?_; rintro e w1 ⟨v1, rfl, o1⟩; obtain ⟨ao1, c1, rfl⟩ := o1.own.form; have O1 := hide o1; clear o1))
  have J0 := hide (Ls.new O1.out.bel O1.out.own)
  have c0 := J0.out.cell (g := w1.heap.size) rfl (i := 0) rfl
  generalize hW1 : w1.alloc (.cells #[.slice ao1 L.length c1] 22) = W1 at *
  generalize w1.heap.size = g1 at *
  clear hW1 O1 HC
  go_wp2
  go_loopw [3, 4] (fun v3 v4 wr => ∃ (k : Nat) (vs : List Value), vs.length = k + 1 ∧ vs[k]? = some v4 ∧ Hid (Ls w wr v3 vs L) ∧ Hid (dp (lv L k).length + k = dp L.length)) (fun _ v4 _ => lenV2 v4)
  case atStart => exact ⟨0, _, rfl, rfl, J0, by rfl⟩
  case round =>
    clear J0 c0
    obtain ⟨k, vs, hvs, hv4, J, HD⟩ := hrel
    have HV := hide (And.intro hvs hv4)
    have o4 := J.out.own k _ hv4
    clear hvs hv4
    obtain ⟨ao4, cap4, rfl⟩ := o4.form
    have O4 := hide o4
    clear o4
    have hle := lv_le L k
    have hpos := lv_pos L HN.out.1 k
    have hn := HN.out.2
    by_cases hlt : 1 < (lv L k).length
    · have h1 : (1 : Int) < ((lv L k).length : Int) := by omega
      have HD2 : Hid (dp (lv L (k + 1)).length + (k + 1) = dp L.length) := by
        show _ = _
        rw [← HD.out, dp_step _ hlt, lv, nxt_len]
        omega
      have HA := hide fun W hW hKW => above_any (.slice ao4 (lv L k).length cap4) (lv L k) W hW (by omega) hKW
      rw [show nxt (lv L k) = lv L (k + 1) from rfl] at HA
      have ME := hide (show (lv L (k + 1)).length < (lv L k).length by rw [lv, nxt_len]; omega)
      have SZ : Hid (vs.length ≤ 1000) := by
        show _ ≤ _
        have := HV.out.1
        have := HD.out
        have := dp_le L.length hn
        omega
      clear hlt hle hpos hn hne
      go_upto_region 7 with (first | (go_at_call 28; refine (HA.out _ O4.out.read (KW.out _ J.out.bel)).mono ?_; rintro e w2 ⟨v2, rfl, o2⟩; obtain ⟨ao2, c2, rfl⟩ := o2.own.form; have J2 := hide (J.out.next o2.bel); have O2 := hide o2.own; clear o2))
      have J3 := hide (J2.out.next ((Below.refl _ _).alloc (Nat.le_refl _) (.cells #[.slice ao2 (lv L (k + 1)).length c2] 22)))
      have O3 : Hid (OH 39 (w2.alloc (.cells #[.slice ao2 (lv L (k + 1)).length c2] 22)) (.slice ao2 (lv L (k + 1)).length c2) (lv L vs.length)) := by
        show OH _ _ _ _
        rw [HV.out.1]
        exact O2.out.alloc _
      have C3 : Hid ((w2.alloc (.cells #[.slice ao2 (lv L (k + 1)).length c2] 22)).cell? ⟨w2.heap.size, 0, none⟩ = some (.slice ao2 (lv L (k + 1)).length c2)) := by
        show _ = _
        rw [cell_of_row _ _ _ _ _ _ (heap_alloc_last w2 _)]
        rfl
      go_wp2_with (first | (at_builtin; refine EL.wpApp rfl _ _ rfl rfl J3.out ⟨w2.heap.size, 0, none⟩ rfl (.slice ao2 (lv L (k + 1)).length c2) rfl C3.out O3.out SZ.out ?_; intro v5 w5 j5; have J5 := hide j5; clear j5))
      exact ⟨⟨k + 1, vs ++ [.slice ao2 (lv L (k + 1)).length c2], by simp [HV.out.1], by rw [← HV.out.1]; simp, J5, HD2⟩, by simpa [lenV2] using ME.out⟩
    · have h1 : ¬ (1 : Int) < ((lv L k).length : Int) := by omega
      have hl1 : (lv L k).length = 1 := by omega
      have HK : Hid (vs.length = dp L.length + 1) := by
        show _ = _
        have := HD.out
        rw [hl1, dp_low 1 (by omega)] at this
        have := HV.out.1
        omega
      clear hlt hle hn hl1 hne hpos
      go_wp2
      go_ret
      exact ⟨_, rfl, vs, J.out, HK.out⟩
end
end Go.Proofs.YthlaibkdcebekaaDoor
