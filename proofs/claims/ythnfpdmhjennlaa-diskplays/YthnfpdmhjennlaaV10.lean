/- A disk behind a play of its files, and with a loose change more. -/
import Derived.Test.YthnfpdmhjennlaaV08
namespace Go.Proofs.Ythnfpdmhjennlaa
open Go.RowKit
open Go.Deep
open Go.Lib
theorem infoCh : (Try.prog.info? 81).map (fun i => (i.zero, i.size, i.bytes)) = some (some (.agg zch), 5, 64) := by kernel_rfl
section
variable {W w' : World} {gd b : Nat} {x : St} {T S1 S2 : Nat → Prop} {mn ms : Option Nat} {vo vp : Value} {F : List UInt8 → Option Value} {f' : FS}
theorem DP.played0 (h : DP W gd x T S1 S2 mn ms vo vp) (hf : Fs w' b F f' (grow S1 W w')) (hr : w'.rowIs gd 42 6 (up1 (dc mn ms vo vp x.made x.dead) 0 (.map (some b)))) (fr : Fr (fun g => S1 g ∨ g = gd) W w') : DP w' gd { x with now := f' } (grow T W w') (grow S1 W w') S2 (some b) ms vo vp ∧ Fr T W w' := by
  have hT : Fr T W w' := fr.mono fun g hg => by
    rcases hg with hg | rfl
    · exact h.t1 g hg
    · exact h.tg
  have hb : ∀ g, T g → ¬ S1 g → g ≠ gd → w'.heap[g]? = W.heap[g]? := fun g ht h1 h2 => fr.block g (h.lt g ht) fun e => by
    rcases e with e | e
    · exact h1 e
    · exact h2 e
  refine ⟨⟨hr.congr fun i hi => ?_, .inr ⟨b, F, rfl, hf⟩, h.sure.frame fr.size fun g hg => hb g (h.t2 g hg) (fun e => h.apart g e hg) fun e => h.d2 (e ▸ hg), rowsOf h.loose fun g hg => hb g (h.tl g hg) (h.l1 g hg).1 (h.l1 g hg).2.2, rowsOf h.plan fun g hg => hb g (h.tp g hg) (h.p1 g hg).1 (h.p1 g hg).2.2, .inl h.tg, fun g hg => ?_, fun g hg => .inl (h.t2 g hg), fun g hg => .inl (h.tl g hg), fun g hg => .inl (h.tp g hg), fun g hg h2 => ?_, fun hg => ?_, h.d2, fun g hg => ⟨fun e => ?_, (h.l1 g hg).2⟩, fun g hg => ⟨fun e => ?_, (h.p1 g hg).2⟩, grow_lt h.lt fr.size⟩, hT⟩
  · have : i = 0 ∨ i = 1 ∨ i = 2 ∨ i = 3 ∨ i = 4 ∨ i = 5 := by omega
    rcases this with rfl | rfl | rfl | rfl | rfl | rfl <;> rfl
  · rcases hg with hg | hg
    · exact .inl (h.t1 g hg)
    · exact .inr hg
  · rcases hg with hg | ⟨hg, _⟩
    · exact h.apart g hg h2
    · have := h.lt g (h.t2 g h2)
      omega
  · rcases hg with hg | ⟨hg, _⟩
    · exact h.d1 hg
    · have := h.lt gd h.tg
      omega
  · rcases e with e | ⟨e, _⟩
    · exact (h.l1 g hg).1 e
    · have := h.lt g (h.tl g hg)
      omega
  · rcases e with e | ⟨e, _⟩
    · exact (h.p1 g hg).1 e
    · have := h.lt g (h.tp g hg)
      omega
theorem DP.played1 (h : DP W gd x T S1 S2 mn ms vo vp) (hf : Fs w' b F f' (grow S2 W w')) (hr : w'.rowIs gd 42 6 (up1 (dc mn ms vo vp x.made x.dead) 1 (.map (some b)))) (fr : Fr (fun g => S2 g ∨ g = gd) W w') : DP w' gd { x with sure := f' } (grow T W w') S1 (grow S2 W w') mn (some b) vo vp ∧ Fr T W w' := by
  have hT : Fr T W w' := fr.mono fun g hg => by
    rcases hg with hg | rfl
    · exact h.t2 g hg
    · exact h.tg
  have hb : ∀ g, T g → ¬ S2 g → g ≠ gd → w'.heap[g]? = W.heap[g]? := fun g ht h1 h2 => fr.block g (h.lt g ht) fun e => by
    rcases e with e | e
    · exact h1 e
    · exact h2 e
  refine ⟨⟨hr.congr fun i hi => ?_, h.now.frame fr.size fun g hg => hb g (h.t1 g hg) (fun e => h.apart g hg e) fun e => h.d1 (e ▸ hg), .inr ⟨b, F, rfl, hf⟩, rowsOf h.loose fun g hg => hb g (h.tl g hg) (h.l1 g hg).2.1 (h.l1 g hg).2.2, rowsOf h.plan fun g hg => hb g (h.tp g hg) (h.p1 g hg).2.1 (h.p1 g hg).2.2, .inl h.tg, fun g hg => .inl (h.t1 g hg), fun g hg => ?_, fun g hg => .inl (h.tl g hg), fun g hg => .inl (h.tp g hg), fun g h1 hg => ?_, h.d1, fun hg => ?_, fun g hg => ⟨(h.l1 g hg).1, fun e => ?_, (h.l1 g hg).2.2⟩, fun g hg => ⟨(h.p1 g hg).1, fun e => ?_, (h.p1 g hg).2.2⟩, grow_lt h.lt fr.size⟩, hT⟩
  · have : i = 0 ∨ i = 1 ∨ i = 2 ∨ i = 3 ∨ i = 4 ∨ i = 5 := by omega
    rcases this with rfl | rfl | rfl | rfl | rfl | rfl <;> rfl
  · rcases hg with hg | hg
    · exact .inl (h.t2 g hg)
    · exact .inr hg
  · rcases hg with hg | ⟨hg, _⟩
    · exact h.apart g h1 hg
    · have := h.lt g (h.t1 g h1)
      omega
  · rcases hg with hg | ⟨hg, _⟩
    · exact h.d2 hg
    · have := h.lt gd h.tg
      omega
  · rcases e with e | ⟨e, _⟩
    · exact (h.l1 g hg).2.1 e
    · have := h.lt g (h.tl g hg)
      omega
  · rcases e with e | ⟨e, _⟩
    · exact (h.p1 g hg).2.1 e
    · have := h.lt g (h.tp g hg)
      omega
theorem chs_snoc (l : List Ch) (c : Ch) : chs (l ++ [c]) = chs l ++ (chv c).toList := by simp [chs]
/-- A change behind the loose ones. -/
theorem run_appC {w : World} {l : List Ch} {ty : TypeId} (h : w.ownsRow 0 81 5 vo l.length (chs l)) (g : Nat) (c : Ch) (hg : w.heap[g]? = some (.cells (chv c) 81 (0, 0))) (hl : l.length ≤ 100000) : ∃ v' w', (Builtin.append_ #[40, 40] ty #[vo, .slice (some ⟨g, 0, none⟩) 1 1]).run Try.prog w = .ok v' w' ∧ w'.ownsRow 0 81 5 v' (l ++ [c]).length (chs (l ++ [c])) ∧ Onto w w' vo v' := by
  obtain ⟨i0, hi, hz0, hz1, hz2⟩ := info_parts infoCh
  obtain ⟨v', w', hr, h2, h3, _, h5⟩ := run_append_own_at (P := Try.prog) w 0 40 ty 81 i0 (.agg zch) 5 64 Try.underlying40 hi hz0 hz1 hz2 rfl (by decide) vo l.length (chs l) h ⟨g, 0, none⟩ 1 1 (chv c).toList rfl
    (fun j u hu => by
      rw [addr_add, Nat.zero_add, cell_of_row _ _ _ _ _ _ hg]
      simpa using hu)
    (fun u hu => by
      have := chv_one c
      rw [Array.all_eq_true_iff_forall_mem] at this
      exact this u (by simpa using hu)) (by unfold maxLen; omega) (by omega) (Nat.zero_le _)
  refine ⟨v', w', hr, ?_, ⟨h3, ?_⟩⟩
  · rw [chs_snoc, List.length_append]
    exact h2
  · rcases h5 with h5 | h5
    · exact .inl h5
    · exact .inr ⟨_, h5, Nat.le_refl _⟩
/-- A loose change more: the append, then the store of its list. -/
theorem DP.more (h : DP W gd x T S1 S2 mn ms vo vp) {l' : List Ch} {v' : Value} (ho : w'.ownsRow 0 81 5 v' l'.length (chs l')) (on : Onto W w' vo v') : DP (w'.setCell ⟨gd, 2, none⟩ v') gd { x with loose := l' } (grow T W w') S1 S2 mn ms v' vp ∧ Fr T W (w'.setCell ⟨gd, 2, none⟩ v') := by
  have hs := on.grown.size
  have hz : (w'.setCell ⟨gd, 2, none⟩ v').heap.size = w'.heap.size := by simp [World.setCell]
  have hb1 : ∀ g, T g → vo.ownBlock ≠ some g → w'.heap[g]? = W.heap[g]? := fun g ht hne => on.grown.block g (h.lt g ht) fun e => hne e.symm
  have hb : ∀ g, T g → vo.ownBlock ≠ some g → g ≠ gd → (w'.setCell ⟨gd, 2, none⟩ v').heap[g]? = W.heap[g]? := fun g ht hne hg => (Below.heap_setCell _ _ _ _ hg).trans (hb1 g ht hne)
  have nd : vo.ownBlock ≠ some gd := fun e => (h.l1 gd e).2.2 rfl
  have hrow := World.rowIs.set (World.rowIs.of_block h.row (hb1 gd h.tg nd)) 2 v'
  have far : ∀ g, v'.ownBlock = some g → vo.ownBlock = some g ∨ (W.heap.size ≤ g ∧ g < w'.heap.size) := fun g hg => by
    rcases on.lies with e | ⟨g2, e, hge⟩
    · rw [e] at hg
      exact .inl hg
    · have := (ho.lt g hg).2
      rw [e] at hg
      cases hg
      exact .inr ⟨hge, this⟩
  have l1 : ∀ g, v'.ownBlock = some g → ¬ S1 g ∧ ¬ S2 g ∧ g ≠ gd := fun g hg => by
    rcases far g hg with e | ⟨e, _⟩
    · exact h.l1 g e
    · refine ⟨fun c => ?_, fun c => ?_, fun c => ?_⟩
      · have := h.lt g (h.t1 g c)
        omega
      · have := h.lt g (h.t2 g c)
        omega
      · have := h.lt gd h.tg
        omega
  have hvp : ∀ g, vp.ownBlock = some g → vo.ownBlock ≠ some g := fun g hg e => by
    rcases h.plan.2 with ⟨rfl, _⟩ | ⟨g1, cap, cur, rfl, _, hg1, _⟩
    · cases hg
    · rcases h.loose.2 with ⟨rfl, _⟩ | ⟨g2, cap2, cur2, rfl, _, hg2, _⟩
      · cases e
      · cases hg
        cases e
        rw [hg1] at hg2
        injection hg2 with hg2
        injection hg2 with _ e2
        exact absurd e2 (by decide)
  refine ⟨⟨hrow.congr fun i hi => ?_, h.now.frame (by omega) fun g hg => hb g (h.t1 g hg) (fun e => (h.l1 g e).1 hg) fun e => h.d1 (e ▸ hg), h.sure.frame (by omega) fun g hg => hb g (h.t2 g hg) (fun e => (h.l1 g e).2.1 hg) fun e => h.d2 (e ▸ hg), rowsOf ho fun g hg => Below.heap_setCell _ _ _ _ (l1 g hg).2.2, rowsOf h.plan fun g hg => hb g (h.tp g hg) (hvp g hg) (h.p1 g hg).2.2, .inl h.tg, fun g hg => .inl (h.t1 g hg), fun g hg => .inl (h.t2 g hg), fun g hg => ?_, fun g hg => .inl (h.tp g hg), h.apart, h.d1, h.d2, l1, h.p1, fun g hg => by rw [hz]; exact grow_lt h.lt hs g hg⟩, ?_⟩
  · have : i = 0 ∨ i = 1 ∨ i = 2 ∨ i = 3 ∨ i = 4 ∨ i = 5 := by omega
    rcases this with rfl | rfl | rfl | rfl | rfl | rfl <;> rfl
  · rcases far g hg with e | e
    · exact .inl (h.tl g e)
    · exact .inr e
  · exact (Fr.of_grown on.grown h.tl).trans' (Fr.setCell _ h.tg _)
/-- Another number of changes. -/
theorem DP.setMade (h : DP W gd x T S1 S2 mn ms vo vp) (n : Nat) : DP (W.setCell ⟨gd, 3, none⟩ (.int .i64 (n : Int))) gd { x with made := n } T S1 S2 mn ms vo vp := by
  have hb : ∀ g, g ≠ gd → (W.setCell ⟨gd, 3, none⟩ (.int .i64 (n : Int))).heap[g]? = W.heap[g]? := fun g hg => Below.heap_setCell _ _ _ _ hg
  have hs : (W.setCell ⟨gd, 3, none⟩ (.int .i64 (n : Int))).heap.size = W.heap.size := by simp [World.setCell]
  refine ⟨(World.rowIs.set h.row 3 (.int .i64 (n : Int))).congr fun i hi => ?_, h.now.frame (by omega) fun g hg => hb g fun e => h.d1 (e ▸ hg), h.sure.frame (by omega) fun g hg => hb g fun e => h.d2 (e ▸ hg), rowsOf h.loose fun g hg => hb g (h.l1 g hg).2.2, rowsOf h.plan fun g hg => hb g (h.p1 g hg).2.2, h.tg, h.t1, h.t2, h.tl, h.tp, h.apart, h.d1, h.d2, h.l1, h.p1, fun g hg => by rw [hs]; exact h.lt g hg⟩
  have : i = 0 ∨ i = 1 ∨ i = 2 ∨ i = 3 ∨ i = 4 ∨ i = 5 := by omega
  rcases this with rfl | rfl | rfl | rfl | rfl | rfl <;> rfl
/-- No loose change any more. -/
theorem DP.noLoose (h : DP W gd x T S1 S2 mn ms vo vp) : DP (W.setCell ⟨gd, 2, none⟩ (.slice none 0 0)) gd { x with loose := [] } T S1 S2 mn ms (.slice none 0 0) vp := by
  have hb : ∀ g, g ≠ gd → (W.setCell ⟨gd, 2, none⟩ (.slice none 0 0)).heap[g]? = W.heap[g]? := fun g hg => Below.heap_setCell _ _ _ _ hg
  have hs : (W.setCell ⟨gd, 2, none⟩ (.slice none 0 0)).heap.size = W.heap.size := by simp [World.setCell]
  refine ⟨(World.rowIs.set h.row 2 (.slice none 0 0)).congr fun i hi => ?_, h.now.frame (by omega) fun g hg => hb g fun e => h.d1 (e ▸ hg), h.sure.frame (by omega) fun g hg => hb g fun e => h.d2 (e ▸ hg), World.ownsRow_nil _ _ _ _, rowsOf h.plan fun g hg => hb g (h.p1 g hg).2.2, h.tg, h.t1, h.t2, fun g hg => (by cases hg), h.tp, h.apart, h.d1, h.d2, fun g hg => (by cases hg), h.p1, fun g hg => by rw [hs]; exact h.lt g hg⟩
  have : i = 0 ∨ i = 1 ∨ i = 2 ∨ i = 3 ∨ i = 4 ∨ i = 5 := by omega
  rcases this with rfl | rfl | rfl | rfl | rfl | rfl <;> rfl
end
end Go.Proofs.Ythnfpdmhjennlaa
