/- A ping as bytes: Encode of it. -/
import Derived.Test.YtiadfaipmpogbaaGreatPn
import Derived.Test.YtiadfaipmpogbaaGreatPg0
import Derived.Test.YtiadfaipmpogbaaGreatPj
import Derived.Test.YtiadfaipmpogbaaGreatPl
namespace Go.Proofs.YtiadfaipmpogbaaGreat
open Go.RowKit
open Go.Deep
/-- A writer at block b that holds l, all made behind B. -/
structure Wb (B w : World) (b : Nat) (l : List UInt8) : Prop where
  st : Wst w (.pointer (some ⟨b, 0, none⟩)) l
  bel : Below B.heap.size B w
  far : B.heap.size ≤ b
  row : ∀ k, rowOf w (.pointer (some ⟨b, 0, none⟩)) = some k → B.heap.size ≤ k
theorem Wb.new (w : World) : Wb w (w.alloc (.cells #[.slice none 0 0] 116)) w.heap.size [] := by
  refine ⟨Wst.new w, (Below.refl _ _).alloc (Nat.le_refl _) _, Nat.le_refl _, fun k hk => ?_⟩
  have hc : (w.alloc (.cells #[.slice none 0 0] 116)).cell? ⟨w.heap.size, 0, none⟩ = some (.slice none 0 0) := by
    rw [cell_of_row _ _ 0 _ _ _ (heap_alloc_new w _)]; rfl
  simp [rowOf, hc, Value.ownBlock] at hk
theorem Wb.step {B w w' : World} {b : Nat} {l l' : List UInt8} (h : Wb B w b l) (s : Wst w' (.pointer (some ⟨b, 0, none⟩)) l') (f : Wfr w w' (.pointer (some ⟨b, 0, none⟩))) : Wb B w' b l' := by
  have hs := h.bel.size
  refine ⟨s, h.bel.trans ⟨f.os, f.tape, f.output, f.size, fun k hk => f.block k (by omega) ?_ ?_⟩, h.far, fun k hk => ?_⟩
  · have := h.far
    simp [blkOf]
    omega
  · intro e
    have := h.row k e
    omega
  · rcases f.lies with e | ⟨g, e, hg⟩
    · exact h.row k (by rw [← e]; exact hk)
    · rw [e] at hk
      cases hk
      omega
theorem Wb.next {B w w' : World} {b : Nat} {l : List UInt8} (h : Wb B w b l) (k : Below w.heap.size w w') : Wb B w' b l := h.step (h.st.below k) (Wfr.of_below h.st k)
section
set_option maxRecDepth 10000
set_option maxHeartbeats 4000000
theorem hasMore_5 (m : Mg) (s : Vs) (hk : m.kind = 5) (w : World) : Calls Tryz.prog 23 #[.agg (m.cells s).toArray] w fun e w' => e = .returned (.bool false) ∧ Below w.heap.size w w' := by
  have B1 := hide ((Below.refl w.heap.size w).alloc (Nat.le_refl _) (.cells (m.cells s).toArray 38))
  have c0 := (Mc.of (m := m) (s := s) (heap_alloc_last w (.cells (m.cells s).toArray 38))).f0
  rw [hk] at c0
  clear hk
  generalize (m.cells s).toArray = C at *
  go_enter Tryz.func23, Tryz.ntmps23
  go_wp2_with (with_reducible refine at_list ?_; refine wpList_boxA rfl _ rfl C rfl ?_)
  go_ret
  exact ⟨rfl, B1.out⟩
theorem wellFormed_5 (m : Mg) (s : Vs) (hk : m.kind = 5) (w : World) : Calls Tryz.prog 24 #[.agg (m.cells s).toArray] w fun e w' => e = .returned (.bool true) ∧ Below w.heap.size w w' := by
  have B1 := hide ((Below.refl w.heap.size w).alloc (Nat.le_refl _) (.cells (m.cells s).toArray 38))
  have c0 := (Mc.of (m := m) (s := s) (heap_alloc_last w (.cells (m.cells s).toArray 38))).f0
  rw [hk] at c0
  clear hk
  generalize (m.cells s).toArray = C at *
  go_enter Tryz.func24, Tryz.ntmps24
  go_wp2_with (with_reducible refine at_list ?_; refine wpList_boxA rfl _ rfl C rfl ?_)
  go_ret
  exact ⟨rfl, B1.out⟩
theorem unnamed_5 (m : Mg) (s : Vs) (hs : s.ok) (hk : m.kind = 5) (w : World) : Calls Tryz.prog 25 #[.agg (m.cells s).toArray] w fun e w' => e = .returned (.agg (({ m with nonce := 0 } : Mg).cells s).toArray) ∧ Below w.heap.size w w' := by
  have e1 := heap_alloc_last w (.cells (m.cells s).toArray 38)
  have r1 := (Below.heap_alloc _ (.cells (zM.cells nil8).toArray 38) _ (lt_heap e1)).trans e1
  have r2 := heap_alloc_last (w.alloc (.cells (m.cells s).toArray 38)) (.cells (zM.cells nil8).toArray 38)
  rw [show (w.alloc (.cells (m.cells s).toArray 38)).heap.size = w.heap.size + 1 by simp] at r2
  have b1 : Below w.heap.size w ((w.alloc (.cells (m.cells s).toArray 38)).alloc (.cells (zM.cells nil8).toArray 38)) := ((Below.refl _ _).alloc (Nat.le_refl _) _).alloc (by simp) _
  have hsz : (w.alloc (.cells (m.cells s).toArray 38)).heap.size = w.heap.size + 1 := by simp
  have c0 := (Mc.of (m := m) (s := s) r1).f0
  have c3 := (Mc.of (m := m) (s := s) r1).f3
  have f3 := frozen_of_row _ _ 3 _ _ r1
  rw [hk] at c0
  have HO := hide (({ m with nonce := 0 } : Mg).one s hs)
  have HZ := hide (({ m with nonce := 0 } : Mg).size s)
  have A0 := hide (And.intro AM (zM.size nil8))
  generalize hW : (w.alloc (.cells (m.cells s).toArray 38)).alloc (.cells (zM.cells nil8).toArray 38) = W0 at *
  have R1 : Hid ((W0.setCell ⟨w.heap.size, 3, none⟩ (.int .u64 0)).heap[w.heap.size]? = some (.cells (({ m with nonce := 0 } : Mg).cells s).toArray 38 (0, 0))) := by
    show _ = _
    have := (mcf_of m s r1).set 3 (.int .u64 0)
    exact mcf_row _ _ (this.congr (g := mcf ({ m with nonce := 0 } : Mg) s) fun j hj => by
      unfold mcf
      rw [show ({ m with nonce := 0 } : Mg).cells s = (m.cells s).set 3 (.int .u64 0) from rfl]
      by_cases h : j = 3
      · subst h
        rfl
      · rw [if_neg h, List.getElem?_set_ne (Ne.symm h)])
  have R2 : Hid ((W0.setCell ⟨w.heap.size, 3, none⟩ (.int .u64 0)).heap[w.heap.size + 1]? = some (.cells (zM.cells nil8).toArray 38 (0, 0))) := (blk_setCell_other _ _ _ _ (fun e => by have e' : w.heap.size + 1 = w.heap.size := e; omega)).trans r2
  have B2 : Hid (Below w.heap.size w (W0.setCell ⟨w.heap.size, 3, none⟩ (.int .u64 0))) := b1.trans ((Rfr.setCell w.heap.size W0 3 (.int .u64 0)).to_below (Nat.le_refl _) b1.size)
  clear r1 r2 b1 e1 hk hs
  go_enter Tryz.func25, Tryz.ntmps25
  generalize (({ m with nonce := 0 } : Mg).cells s).toArray = D at *
  generalize (m.cells s).toArray = C at *
  go_upto_region 1 with (with_reducible refine at_list ?_; first | refine wpList_boxA rfl _ rfl C rfl ?_ | refine wpList_allocA AM rfl rfl ?_)
  rw [hW, hsz]
  clear hW hsz
  generalize (zM.cells nil8).toArray = Z at *
  go_upto_region 30 with fail
  generalize W0.setCell ⟨w.heap.size, 3, none⟩ (.int .u64 0) = W1 at *
  have FF := hide (setRow_heap W1 (w.heap.size + 1) _ D _ _ R2.out)
  have BF := hide (below_setRow B2.out (Nat.le_succ _) D)
  go_wp2_with ((with_reducible refine at_list ?_); first | refine wpList_loadS A0.out.1 _ rfl w.heap.size rfl D HZ.out 38 R1.out rfl ?_ | refine wpList_storeA A0.out.1 rfl _ _ rfl (w.heap.size + 1) D HZ.out HO.out rfl rfl Z A0.out.2 38 R2.out ?_)
  refine bodyPost_ret (resA A0.out.1 rfl _ _ _ _ D HZ.out rfl FF.out) rfl ?_
  exact ⟨rfl, BF.out⟩
theorem put_5 (m : Mg) (s : Vs) (hk : m.kind = 5) {B w : World} {b : Nat} (h : Wb B w b []) : Calls Tryz.prog 27 #[.pointer (some ⟨b, 0, none⟩), .agg (m.cells s).toArray] w fun e w' => e = .returned (.tuple #[]) ∧ Wb B w' b (lowL m.nonce.toNat 8) := by
  have e1 := heap_alloc_last w (.cells #[.pointer (some ⟨b, 0, none⟩)] 71)
  have r1 := (Below.heap_alloc _ (.cells (m.cells s).toArray 38) _ (lt_heap e1)).trans e1
  have r2 := heap_alloc_last (w.alloc (.cells #[.pointer (some ⟨b, 0, none⟩)] 71)) (.cells (m.cells s).toArray 38)
  have hsz : (w.alloc (.cells #[.pointer (some ⟨b, 0, none⟩)] 71)).heap.size = w.heap.size + 1 := by simp
  rw [hsz] at r2
  have J := hide (h.next ((((Below.refl _ _).alloc (Nat.le_refl _) (.cells #[.pointer (some ⟨b, 0, none⟩)] 71))).alloc (by simp) (.cells (m.cells s).toArray 38)))
  have c0 := (Mc.of (m := m) (s := s) r2).f0
  have c3 := (Mc.of (m := m) (s := s) r2).f3
  have cw : ((w.alloc (.cells #[.pointer (some ⟨b, 0, none⟩)] 71)).alloc (.cells (m.cells s).toArray 38)).cell? ⟨w.heap.size, 0, none⟩ = some (.pointer (some ⟨b, 0, none⟩)) := by rw [cell_of_row _ _ 0 _ _ _ r1]; rfl
  rw [hk] at c0
  have HU := hide (show U64 m.nonce.toNat from m.nonce.toNat_lt)
  clear r1 r2 e1 hk h
  generalize (m.cells s).toArray = C at *
  generalize m.nonce.toNat = n at *
  go_enter Tryz.func27, Tryz.ntmps27
  go_wp2_with (first | (go_at_call 58; refine (wU64 _ _ n HU.out _ (by simp) J.out.st).mono ?_; rintro e w2 ⟨rfl, s2, f2⟩; have J2 := hide (J.out.step s2 f2); rw [List.nil_append] at J2; clear s2 f2) | (with_reducible refine at_list ?_; refine wpList_boxA rfl _ rfl C rfl ?_; rw [hsz]))
  go_end0
  exact ⟨rfl, J2.out⟩
end
end Go.Proofs.YtiadfaipmpogbaaGreat
