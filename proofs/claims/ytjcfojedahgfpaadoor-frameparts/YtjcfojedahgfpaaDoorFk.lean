/- A stream in memory: the contracts of New, Broken, Held, Taken and Feed. -/
import Derived.Test.YtjcfojedahgfpaaDoorFj
namespace Go.Proofs.YtjcfojedahgfpaaDoor
open Go.RowKit
open Go.Deep
def sc4 (x : Sq) (v : Value) : Array Value := #[.int .u32 (x.magic : Int), v, .int .i64 x.broken, .int .i64 x.taken]
/-- A stream x at block b whose bytes are v, all made behind B; the rows of Q are others'. -/
structure Sm (Q : List (Nat × Obj)) (B W : World) (b : Nat) (v : Value) (x : Sq) : Prop where
  row : W.heap[b]? = some (.cells (sc4 x v) 73 (0, 0))
  om : OM W v x.held
  bel : Below B.heap.size B W
  fb : B.heap.size ≤ b
  fv : ∀ g, v.ownBlock = some g → B.heap.size ≤ g ∧ g ≠ b
  long : x.held.length ≤ 32816
  mag : x.magic < 4294967296
  keep : ∀ p ∈ Q, W.heap[p.1]? = some p.2 ∧ p.1 ≠ b ∧ v.ownBlock ≠ some p.1
section
variable {Q : List (Nat × Obj)} {B W W' : World} {b : Nat} {v v' : Value} {x : Sq}
theorem Sm.lt (h : Sm Q B W b v x) : b < W.heap.size := lt_heap h.row
theorem Sm.c0 (h : Sm Q B W b v x) : W.cell? ⟨b, 0, none⟩ = some (.int .u32 (x.magic : Int)) := by rw [cell_of_row W b 0 _ _ _ h.row]; rfl
theorem Sm.c1 (h : Sm Q B W b v x) : W.cell? ⟨b, 1, none⟩ = some v := by rw [cell_of_row W b 1 _ _ _ h.row]; rfl
theorem Sm.c2 (h : Sm Q B W b v x) : W.cell? ⟨b, 2, none⟩ = some (.int .i64 x.broken) := by rw [cell_of_row W b 2 _ _ _ h.row]; rfl
theorem Sm.c3 (h : Sm Q B W b v x) : W.cell? ⟨b, 3, none⟩ = some (.int .i64 x.taken) := by rw [cell_of_row W b 3 _ _ _ h.row]; rfl
theorem Sm.f (h : Sm Q B W b v x) (i : Nat) : W.frozen? ⟨b, i, none⟩ = false := frozen_of_row W b i _ _ h.row
theorem Sm.next (h : Sm Q B W b v x) (k : Below W.heap.size W W') : Sm Q B W' b v x :=
  ⟨(k.block _ h.lt).trans h.row, h.om.below k, below_next h.bel k, h.fb, h.fv, h.long, h.mag, fun p hp => ⟨(k.block _ (lt_heap (h.keep p hp).1)).trans (h.keep p hp).1, (h.keep p hp).2⟩⟩
theorem Sm.drew (h : Sm Q B W b v x) : Sm Q B W.drew b v x := h.next (below_drew (Below.refl _ _))
theorem Sm.drewN (h : Sm Q B W b v x) (n : Nat) : Sm Q B (W.drewN n) b v x := h.next (below_drewN (Below.refl _ _) n)
/-- Bytes v' of its own laid in. -/
theorem Sm.setV (h : Sm Q B W b v x) {l : List UInt8} (o : OM W' v' l) (k : W.grownBy W' v.ownBlock) (f : v'.ownBlock = v.ownBlock ∨ v'.ownBlock = none ∨ ∃ g, v'.ownBlock = some g ∧ W.heap.size ≤ g) (hl : l.length ≤ 32816) :
    W'.cell? ⟨b, 1, none⟩ = some v ∧ W'.frozen? ⟨b, 1, none⟩ = false ∧ Sm Q B (W'.setCell ⟨b, 1, none⟩ v') b v' { x with held := l } := by
  have hlt := h.lt
  have hs := h.bel.size
  have hb : W'.heap[b]? = W.heap[b]? := k.block b hlt (fun e => (h.fv b e.symm).2 rfl)
  have hrow := hb.trans h.row
  have fv' : ∀ g, v'.ownBlock = some g → B.heap.size ≤ g ∧ g ≠ b := by
    intro g hg
    rcases f with e | e | ⟨g', e, hg'⟩
    · exact h.fv g (by rw [← e]; exact hg)
    · rw [e] at hg; cases hg
    · rw [e] at hg
      cases hg
      exact ⟨by omega, by omega⟩
  refine ⟨(World.cell?_of_block (a := ⟨b, 1, none⟩) hb).trans h.c1, (World.frozen?_of_block (a := ⟨b, 1, none⟩) hb).trans (h.f 1), ?_⟩
  refine ⟨heap_setCell_same W' b 1 _ _ _ hrow, o.kept (fun g hg => Below.heap_setCell _ _ _ _ (fv' g hg).2) (setCell_grown W' b 1 v').size, ?_, h.fb, fv', hl, h.mag, fun p hp => ?_⟩
  · have h2 : Below B.heap.size B W' := h.bel.grown k hs (fun g hg => (h.fv g hg).1)
    exact h2.setCell h.fb _
  · obtain ⟨q1, q2, q3⟩ := h.keep p hp
    refine ⟨(Below.heap_setCell _ _ _ _ q2).trans ((k.block _ (lt_heap q1) (fun e => q3 e.symm)).trans q1), q2, fun e => ?_⟩
    rcases f with f | f | ⟨g, f, hg⟩
    · exact q3 (f.symm.trans e)
    · rw [f] at e; cases e
    · rw [f] at e
      cases e
      have := lt_heap q1
      omega
theorem Sm.onto (h : Sm Q B W b v x) {l : List UInt8} (o : OM W' v' l) (k : Onto W W' v v') (hl : l.length ≤ 32816) :
    W'.cell? ⟨b, 1, none⟩ = some v ∧ W'.frozen? ⟨b, 1, none⟩ = false ∧ Sm Q B (W'.setCell ⟨b, 1, none⟩ v') b v' { x with held := l } :=
  h.setV o k.grown (k.lies.imp_right .inr) hl
theorem Sm.setB (h : Sm Q B W b v x) (e : Int) : Sm Q B (W.setCell ⟨b, 2, none⟩ (.int .i64 e)) b v { x with broken := e } :=
  ⟨heap_setCell_same W b 2 _ _ _ h.row, h.om.kept (fun g hg => Below.heap_setCell _ _ _ _ (h.fv g hg).2) (setCell_grown W b 2 _).size, h.bel.setCell h.fb _, h.fb, h.fv, h.long, h.mag, fun p hp => ⟨(Below.heap_setCell _ _ _ _ (h.keep p hp).2.1).trans (h.keep p hp).1, (h.keep p hp).2⟩⟩
theorem Sm.setT (h : Sm Q B W b v x) (e : Int) : Sm Q B (W.setCell ⟨b, 3, none⟩ (.int .i64 e)) b v { x with taken := e } :=
  ⟨heap_setCell_same W b 3 _ _ _ h.row, h.om.kept (fun g hg => Below.heap_setCell _ _ _ _ (h.fv g hg).2) (setCell_grown W b 3 _).size, h.bel.setCell h.fb _, h.fb, h.fv, h.long, h.mag, fun p hp => ⟨(Below.heap_setCell _ _ _ _ (h.keep p hp).2.1).trans (h.keep p hp).1, (h.keep p hp).2⟩⟩
end
theorem Sm.new (w : World) (m : Nat) (hm : m < 4294967296) : Sm [] w (w.alloc (.cells (sc4 ⟨m, [], 0, 0⟩ (.slice none 0 0)) 73)) w.heap.size (.slice none 0 0) ⟨m, [], 0, 0⟩ :=
  ⟨heap_alloc_last _ _, OM.nil _, (Below.refl _ _).alloc (Nat.le_refl _) _, Nat.le_refl _, (fun g hg => by cases hg), Nat.zero_le _, hm, fun p hp => by cases hp⟩
/-- With other rows of others'. -/
theorem Sm.with {Q Q' : List (Nat × Obj)} {B W : World} {b : Nat} {v : Value} {x : Sq} (h : Sm Q B W b v x) (hq : ∀ p ∈ Q', W.heap[p.1]? = some p.2 ∧ p.1 ≠ b ∧ v.ownBlock ≠ some p.1) : Sm Q' B W b v x :=
  ⟨h.row, h.om, h.bel, h.fb, h.fv, h.long, h.mag, hq⟩
theorem step_appS {w : World} {ops : Array Oper} {o : Oper} {a : Act} {K : Act → World → Prop} {Q : Exit → Act → World → Prop} {E : Prop} (hgd : o.guard = none) (s x : Operand)
    (ho : o.op = .call { callee := .builtin .append, args := #[s, x], argTypes := #[63, 9] })
    (v : Value) (l : List UInt8) (hs : a.eval s = v) (hown : OM w v l) (t : ByteArray) (hx : a.eval x = .string t) (hsm : l.length + t.size ≤ 1000000)
    (h : ∀ v' w', OM w' v' (l ++ t.data.toList) → Onto w w' v v' → K (a.put o.dst v') w') :
    if Region.wanted o (yielded ops a.tmps) = true then Oper.wp Tryd.prog o a w K Q else E := by
  have hw : Region.wanted o (yielded ops a.tmps) = true := by simp [Region.wanted, hgd]
  rw [if_pos hw]
  obtain ⟨v', w', hr, h2, h3⟩ := hown.app (ty := o.type) t hsm
  unfold Oper.wp execOp
  simp only [ho, resolve, invoke, builtin, Sem.run_bind, Sem.run_pure, Result.andThen_ok, List.map_toArray, List.map_cons, List.map_nil, hs, hx, hr]
  exact h v' w' h2 h3
section
set_option maxRecDepth 10000
set_option maxHeartbeats 1000000
theorem fnew_any (m : Nat) (w : World) : Calls Tryd.prog 15 #[.int .u32 (m : Int)] w fun e w' => e = .returned (.pointer (some ⟨w.heap.size, 0, none⟩)) ∧ w' = w.alloc (.cells (sc4 ⟨m, [], 0, 0⟩ (.slice none 0 0)) 73) := by
  go_enter Tryd.func15, Tryd.ntmps15
  go_wp2
  go_ret
  exact ⟨rfl, rfl⟩
variable {Q : List (Nat × Obj)} {B W : World} {b : Nat} {v : Value} {x : Sq}
theorem broken_any (h : Sm Q B W b v x) : Calls Tryd.prog 20 #[.pointer (some ⟨b, 0, none⟩)] W fun e w' => e = .returned (.int .i64 x.broken) ∧ w' = W := by
  have h2 := h.c2
  go_enter Tryd.func20, Tryd.ntmps20
  go_wp2
  go_ret
  exact ⟨rfl, rfl⟩
theorem taken_any (h : Sm Q B W b v x) : Calls Tryd.prog 19 #[.pointer (some ⟨b, 0, none⟩)] W fun e w' => e = .returned (.int .i64 x.taken) ∧ w' = W := by
  have h3 := h.c3
  go_enter Tryd.func19, Tryd.ntmps19
  go_wp2
  go_ret
  exact ⟨rfl, rfl⟩
theorem held_any (h : Sm Q B W b v x) : Calls Tryd.prog 16 #[.pointer (some ⟨b, 0, none⟩)] W fun e w' => e = .returned (.int .i64 x.held.length) ∧ w' = W := by
  have h1 := h.c1
  obtain ⟨ao, cap, rfl, _⟩ := h.om.form
  go_enter Tryd.func16, Tryd.ntmps16
  go_wp2
  go_ret
  exact ⟨rfl, rfl⟩
theorem feed_any (h : Sm Q B W b v x) (s : ByteArray) (hs : s.size ≤ maxLen) : Calls Tryd.prog 17 #[.pointer (some ⟨b, 0, none⟩), .string s] W fun e w' => e = .returned (.int .i64 (x.feed s.data.toList).2) ∧ ∃ v', Sm Q B w' b v' (x.feed s.data.toList).1 := by
  have HB := hide (broken_any h)
  unfold Sq.feed
  by_cases hb : x.broken = 0
  · rw [if_neg (by simp [hb])]
    unfold maxLen at hs
    have hl := h.long
    have h1 := h.c1
    obtain ⟨ao, cap, rfl, _⟩ := h.om.form
    have HH := hide h
    have hmin : min (s.size : Int) (32816 - (x.held.length : Int)) = ((min s.size (32816 - x.held.length) : Nat) : Int) := by omega
    have hk1 : min s.size (32816 - x.held.length) ≤ s.size := Nat.min_le_left _ _
    have hk2 : x.held.length + min s.size (32816 - x.held.length) ≤ 32816 := by omega
    have HT : Hid ((s.extract 0 (min s.size (32816 - x.held.length))).data.toList = s.data.toList.take (32816 - x.held.length)) := by
      rw [Hid, exl s 0 _ (min s.size (32816 - x.held.length)) (by omega), List.drop_zero]
      by_cases hh : s.size ≤ 32816 - x.held.length
      · rw [Nat.min_eq_left hh, List.take_of_length_le (by simp), List.take_of_length_le (by simpa using hh)]
      · rw [Nat.min_eq_right (by omega)]
    have hlen : s.data.toList.length = s.size := by simp
    rw [hlen]
    have HZ := hide (exs s 0 _ hk1)
    simp only
    clear h
    generalize min s.size (32816 - x.held.length) = k at *
    rw [hb] at HB
    go_enter Tryd.func17, Tryd.ntmps17
    go_upto_region 4 with (go_at_call 20; refine HB.out.mono ?_; rintro e w1 ⟨rfl, hw⟩; subst w1)
    go_region_law ((refine step_appS (by rfl) _ _ (by rfl) _ _ (by rfl) (HH.out.om.kept (fun _ _ => rfl) (Nat.le_refl _)) (s.extract 0 k) (by rfl) (by rw [HZ.out]; omega) ?_; intro v' w3 o3 on3; obtain ⟨c3, f3, J3⟩ := HH.out.drew.onto o3 on3 (by rw [List.length_append, HT.out, List.length_take]; omega); obtain ⟨ao3, cap3, rfl, _⟩ := o3.form; have J3 := hide J3; clear o3 on3; generalize hL : x.held ++ (s.extract 0 k).data.toList = L at *; have HL := hide hL; clear hL))
    all_goals
      go_wp2
      go_ret
      refine ⟨rfl, .slice ao3 L.length cap3, ?_⟩
      rw [← HT.out, HL.out]
      exact J3.out
  · rw [if_pos hb]
    have hb' : (x.broken != 0) = true := by simp [hb]
    go_enter Tryd.func17, Tryd.ntmps17
    go_wp2_with (go_at_call 20; refine HB.out.mono ?_; rintro e w1 ⟨rfl, hw⟩; subst w1)
    go_ret
    exact ⟨rfl, v, h⟩
end
end Go.Proofs.YtjcfojedahgfpaaDoor
