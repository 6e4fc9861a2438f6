/- Streams: the contracts of Clone and of the document's Feed and Need. -/
import Derived.Test.YtjcfojedahgfpaaGreatDoorFp
import Derived.BigQuiet
namespace Go.Proofs.YtjcfojedahgfpaaGreatDoor
open Go.RowKit
open Go.Deep
theorem eqsl (ao : Option Addr) (n c : Nat) (w : World) : (binOp .eql 44 (.slice ao n c) (.slice none 0 0)).run Tryz.prog w = .ok (.bool ao.isNone) w := by
  cases ao <;> kernel_rfl
theorem bs0 (w : World) : (Instr.buildSlice 44 0 #[]).run Tryz.prog w = .ok (.slice (some ⟨w.heap.size, 0, none⟩) 0 0) (w.alloc (.cells #[] 5)) := by
  kernel_rfl
def sz4 : Array Value := #[.int .u32 0, .slice none 0 0, .int .i64 0, .int .i64 0]
theorem AS : Arr 46 4 sz4 := ⟨.inr ⟨_, Tryz.underlying46⟩, by kernel_rfl, fun w => by kernel_rfl, fun w => by kernel_rfl, rfl⟩
theorem sc4_one (x : Sq) (ao : Option Addr) (n c : Nat) : (sc4 x (.slice ao n c)).all (·.oneCell') = true := by
  have e1 : ∀ k y, (Value.int k y).oneCell' = true := fun _ _ => rfl
  have e2 : ∀ a n c, (Value.slice a n c).oneCell' = true := fun _ _ _ => rfl
  simp [sc4, e1, e2]
/-- The document's stream. -/
def mz4 : Array Value := #[.int .u32 0, .string ⟨#[]⟩, .int .i64 0, .int .i64 0]
def m4 (x : Sq) : Array Value := #[.int .u32 (x.magic : Int), .string (txt x.held), .int .i64 x.broken, .int .i64 x.taken]
theorem AM : Arr 28 4 mz4 := ⟨.inr ⟨_, Tryz.underlying28⟩, by kernel_rfl, fun w => by kernel_rfl, fun w => by kernel_rfl, rfl⟩
theorem m4_one (x : Sq) : (m4 x).all (·.oneCell') = true := by
  have e1 : ∀ k y, (Value.int k y).oneCell' = true := fun _ _ => rfl
  have e2 : ∀ s, (Value.string s).oneCell' = true := fun _ => rfl
  simp [m4, e1, e2]
theorem m4_cells {W : World} {g : Nat} {x : Sq} (h : W.heap[g]? = some (.cells (m4 x) 28 (0, 0))) : W.cell? ⟨g, 0, none⟩ = some (.int .u32 (x.magic : Int)) ∧ W.cell? ⟨g, 1, none⟩ = some (.string (txt x.held)) ∧ W.cell? ⟨g, 2, none⟩ = some (.int .i64 x.broken) ∧ W.cell? ⟨g, 3, none⟩ = some (.int .i64 x.taken) :=
  ⟨by rw [cell_of_row W g 0 _ _ _ h]; rfl, by rw [cell_of_row W g 1 _ _ _ h]; rfl, by rw [cell_of_row W g 2 _ _ _ h]; rfl, by rw [cell_of_row W g 3 _ _ _ h]; rfl⟩
section
set_option maxRecDepth 10000
set_option maxHeartbeats 4000000
theorem cloneB_any (v : Value) (l : List UInt8) (w : World) (h : OM w v l) (hl : l.length ≤ 1000000) : Calls Tryz.prog 18 #[v] w fun e w' => ∃ v', e = .returned v' ∧ OM w' v' l ∧ Below w.heap.size w w' ∧ ∀ g, v'.ownBlock = some g → w.heap.size ≤ g := by
  rcases h with ⟨rfl, rfl⟩ | ⟨g, o, cap, rfl, hc, hr, ht, hg⟩
  · have hq := eqsl none 0 0
    go_enter Tryz.func18, Tryz.ntmps18
    go_wp2
    go_ret
    exact ⟨_, rfl, OM.nil _, Below.refl _ _, fun g hg => by cases hg⟩
  · have hq := eqsl (some ⟨g, o, none⟩) l.length cap
    have h5 := bs0
    have HG := hide hl
    have O0 : Hid (Own (w.alloc (.cells #[] 5)) (.slice (some ⟨w.heap.size, 0, none⟩) 0 0) []) := World.ownsRow_made w #[] 0 (Nat.zero_le _) (Nat.zero_le _) rfl
    have hB : Below w.heap.size w (w.alloc (.cells #[] 5)) := (Below.refl _ _).alloc (Nat.le_refl _) _
    have hne : Hid (∀ j u, (cellsL l)[j]? = some u → (w.alloc (.cells #[] 5)).cell? ((⟨g, o, none⟩ : Addr).add j) = some u) := fun j u hu => by
      rw [Addr.add_mid, World.cell?_of_block (a := ⟨g, o + j, none⟩) (hB.block g hg)]
      exact hr j u hu
    have HB := hide hB
    clear hc hr ht hg hl hB
    go_enter Tryz.func18, Tryz.ntmps18
    go_wp2_with (first | (at_builtin; refine wpList_app rfl _ _ rfl _ [] rfl O0.out ⟨g, o, none⟩ l.length cap l rfl rfl hne.out (by have := HG.out; simp; omega) ?_; intro v' w' ho on; have OB := hide (And.intro ho on); clear ho on))
    go_ret
    obtain ⟨ow, on⟩ := OB.out
    have hsz : w.heap.size ≤ (w.alloc (.cells #[] 5)).heap.size := HB.out.size
    exact ⟨_, rfl, OM.of_own (by simpa using ow), HB.out.trans (on.below hsz (fun k hk => by cases hk; exact Nat.le_refl _)), on.far hsz (fun k hk => by cases hk; exact Nat.le_refl _)⟩
/-- A copy: a stream that is the same, all of it new. -/
theorem clone_any {Q : List (Nat × Obj)} {B W : World} {b : Nat} {v : Value} {x : Sq} (h : Sm Q B W b v x) : Calls Tryz.prog 9 #[.pointer (some ⟨b, 0, none⟩)] W fun e w' => ∃ b' v', e = .returned (.pointer (some ⟨b', 0, none⟩)) ∧ Sm [] W w' b' v' x := by
  obtain ⟨ao, cap, rfl, _⟩ := h.om.form
  have HL := hide h
  have b1 : Below W.heap.size W (W.alloc (.cells (sc4 x (.slice ao x.held.length cap)) 46)) := (Below.refl _ _).alloc (Nat.le_refl _) _
  have J1 := hide (h.next b1)
  have R1 := hide (heap_alloc_last W (.cells (sc4 x (.slice ao x.held.length cap)) 46))
  have B1 := hide b1
  clear b1 h
  go_enter Tryz.func9, Tryz.ntmps9
  go_upto_region 4 with (first | refine wpList_loadA AS rfl _ rfl b rfl (sc4 x (.slice ao x.held.length cap)) rfl 46 HL.out.row ?_ | refine wpList_allocA AS rfl rfl ?_ | refine wpList_store_newA AS rfl _ _ rfl _ rfl (sc4 x (.slice ao x.held.length cap)) rfl (sc4_one _ _ _ _) rfl rfl ?_)
  generalize W.alloc (.cells (sc4 x (.slice ao x.held.length cap)) 46) = W1 at *
  have y1 := J1.out.c1
  have HC := hide (cloneB_any _ _ W1 J1.out.om (by have := J1.out.long; omega))
  go_upto_region 5 with (go_at_call 18; refine HC.out.mono ?_; rintro e w2 ⟨v2, rfl, o2, b2, f2⟩; obtain ⟨a2, c2, rfl, _⟩ := o2.form; have R2 := (b2.block _ (lt_heap R1.out)).trans R1.out; have z1 : w2.cell? ⟨W.heap.size, 1, none⟩ = some (.slice ao x.held.length cap) := (by rw [cell_of_row w2 _ 1 _ _ _ R2]; rfl); have zf := frozen_of_row w2 W.heap.size 1 _ _ R2; have O2 := hide o2; have F2 := hide f2; have Q2 := hide b2; have RR := hide R2; clear o2 f2 b2 R2)
  go_wp2
  go_ret
  have hs := B1.out.size
  have hlt := lt_heap R1.out
  have fv : ∀ g, (Value.slice a2 x.held.length c2).ownBlock = some g → W.heap.size ≤ g ∧ g ≠ W.heap.size := fun g hg => by
    have := F2.out g hg
    exact ⟨by omega, by omega⟩
  refine ⟨_, _, rfl, heap_setCell_same w2 W.heap.size 1 _ _ _ RR.out, O2.out.kept (fun g hg => Below.heap_setCell _ _ _ _ (fv g hg).2) (setCell_grown w2 W.heap.size 1 _).size, ((B1.out.trans (Q2.out.mono hs))).setCell (Nat.le_refl _) _, Nat.le_refl _, fv, HL.out.long, HL.out.mag, fun p hp => by cases hp⟩
theorem rneed_any (x : Sq) (hm : x.magic < 4294967296) (hl : x.held.length ≤ 32816) (w : World) : Calls Tryz.prog 16 #[.agg (m4 x)] w fun e w' => e = .returned (.int .i64 x.need) ∧ Below w.heap.size w w' := by
  have B1 : Hid (Below w.heap.size w (w.alloc (.cells (m4 x) 28))) := (Below.refl _ _).alloc (Nat.le_refl _) _
  have R1 := hide (heap_alloc_last w (.cells (m4 x) 28))
  have HH := hide fun W => rhead_any x.magic hm (txt x.held) (by rw [txt_size]; unfold maxLen; omega) W
  rw [txt_list] at HH
  have hz : (txt x.held).size = x.held.length := txt_size _
  have h4 := @headM_4 x.magic x.held
  have h0 := @headM_ok x.magic x.held
  have hb := @headM_bad x.magic x.held
  have hlg := headM_long x.magic x.held
  generalize hN : x.need = N
  have HN := hide hN
  clear hN
  unfold Sq.need Sq.frontE Sq.whole at HN
  generalize headM x.magic x.held = H at *
  obtain ⟨he, hcm, n, q⟩ := H
  simp only at HH h4 h0 hb hlg HN
  go_enter Tryz.func16, Tryz.ntmps16
  go_upto_region 1 with (refine wpList_boxA rfl _ rfl (m4 x) rfl ?_)
  generalize w.alloc (.cells (m4 x) 28) = W1 at *
  obtain ⟨x0, x1, x2, x3⟩ := m4_cells R1.out
  by_cases hbr : x.broken = 0
  · rw [hbr] at x2 HN
    have HC : Hid (∀ W, Below W1.heap.size W1 W → W.cell? ⟨w.heap.size, 1, none⟩ = some (.string (txt x.held))) := fun W hb => (m4_cells ((hb.block _ (lt_heap R1.out)).trans R1.out)).2.1
    go_upto_region 4 with (go_at_call 21; refine (HH.out _).mono ?_; rintro e w2 ⟨rfl, b2⟩; have y1 := HC.out _ b2; have B2 := hide (below_next B1.out b2); clear b2)
    clear x0 x1 x2 x3 HC HH
    generalize txt x.held = T at *
    by_cases e4 : he = 4
    · subst e4
      have := h4 rfl
      have hn := (hb (by decide)).1
      subst hn
      rw [if_pos rfl, if_neg (by simp)] at HN
      go_wp2
      go_ret
      exact ⟨by rw [← HN.out, show ((24 + 0 - x.held.length : Nat) : Int) = 24 - (x.held.length : Int) by omega, ← hz]; rfl, B2.out⟩
    · have e4' : (he == 4) = false := by simpa using e4
      rw [if_neg e4] at HN
      by_cases e0 : he = 0
      · subst e0
        have h24 := h0 rfl
        rw [if_neg (by simp)] at HN
        by_cases hlt : (x.held.length : Int) - 24 < n
        · have hge : ¬ (n : Int) ≤ (T.size : Int) - 24 := by rw [hz]; omega
          go_wp2
          go_ret
          exact ⟨by rw [← HN.out, show ((24 + n - x.held.length : Nat) : Int) = (n : Int) - ((x.held.length : Int) - 24) by omega, ← hz]; rfl, B2.out⟩
        · have hge : (n : Int) ≤ (T.size : Int) - 24 := by rw [hz]; omega
          go_wp2
          go_ret
          exact ⟨by rw [← HN.out, show 24 + n - x.held.length = 0 by omega]; rfl, B2.out⟩
      · have e0' : (he != 0) = true := by simp [e0]
        rw [if_pos (.inr e0)] at HN
        go_wp2
        go_ret
        exact ⟨by rw [← HN.out]; rfl, B2.out⟩
  · rw [if_pos (.inl hbr)] at HN
    have hbr' : (x.broken != 0) = true := by simp [hbr]
    go_wp2
    go_ret
    exact ⟨by rw [← HN.out]; rfl, B1.out⟩
end
end Go.Proofs.YtjcfojedahgfpaaGreatDoor
