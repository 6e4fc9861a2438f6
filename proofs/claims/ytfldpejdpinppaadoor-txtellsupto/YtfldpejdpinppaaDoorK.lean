/- The contracts of Hasher.Sum, sumBehind, Sum and Twice. -/
import Derived.Test.YtfldpejdpinppaaDoorJ
namespace Go.Proofs.YtfldpejdpinppaaDoor
open Go.RowKit
open Go.Deep
theorem padL_len (n : Nat) : (padL n).length = 9 + padZ n := by rw [padL, padP_len]; omega
/-- The state behind a padded text. -/
def fin (t : List UInt8) : St := stN (t ++ padL t.length) ((t ++ padL t.length).length / 64)
/-- The sum of a text. -/
def digest (t : List UInt8) : List UInt8 := (fin t).bytes
theorem digest_len (t : List UInt8) : (digest t).length = 32 := bytes_len _
theorem Hat.ld31 {w : World} {b : Nat} {t : List UInt8} (h : Hat w b t) : (ld31 (.pointer (some ⟨b, 0, none⟩))).run Tryd.prog w = .ok (.agg (uc (stN t (t.length / 64)).list)) w := by
  obtain ⟨tl, hl, ht, hh⟩ := h
  exact hh.ld31
theorem Hat.long {w : World} {b : Nat} {t : List UInt8} (h : Hat w b t) : w.cell? ⟨b, 72, none⟩ = some (.int .u64 (t.length : Int)) := by
  obtain ⟨tl, hl, ht, hh⟩ := h
  exact hh.long
theorem two_below (w : World) (A B : Obj) : Below w.heap.size w ((w.alloc A).alloc B) := ((Below.refl _ _).alloc (Nat.le_refl _) _).alloc (by simp) _
theorem blk2 (w : World) (A B : Obj) : ((w.alloc A).alloc B).heap[w.heap.size]? = some A ∧ ((w.alloc A).alloc B).heap[w.heap.size + 1]? = some B := by
  have e1 := heap_alloc_last w A
  have e2 := heap_alloc_last (w.alloc A) B
  have s1 : (w.alloc A).heap.size = w.heap.size + 1 := by simp
  rw [s1] at e2
  exact ⟨(Below.heap_alloc _ B _ (by omega)).trans e1, e2⟩
/-- The hasher and its copy behind the copy. -/
theorem sum_mid {w : World} {b : Nat} {t : List UInt8} {cs : Array Value} {A : Obj} (h : Hat w b t) (hcs : w.heap[b]? = some (.cells cs 119 (0, 0))) :
    ((w.alloc A).alloc (.cells cs 119)).cell? ⟨b, 72, none⟩ = some (.int .u64 (t.length : Int)) ∧ Hid (Hat ((w.alloc A).alloc (.cells cs 119)) (w.heap.size + 1) t) := by
  have hb := two_below w A (.cells cs 119)
  refine ⟨(h.below hb).long, ?_⟩
  obtain ⟨tl, hl, ht, hh⟩ := h
  have e := hh.heap hl
  rw [hcs] at e
  have e2 : cs = hsA (stN t (t.length / 64)) tl t.length := by
    injection e with e
    injection e
  refine ⟨tl, hl, ht, Hst.of_heap hl ?_⟩
  rw [← e2]
  exact (blk2 w A _).2
/-- Behind the padding's write. -/
theorem sum_end {w W3 W4 : World} {A B : Obj} (b3 : Below ((w.alloc A).alloc B).heap.size ((w.alloc A).alloc B) W3) (r : Rfr (w.heap.size + 1) W3 W4) :
    Hid (W4.heap[w.heap.size]? = some A) ∧ Hid (Below w.heap.size w W4) := by
  have hN : ((w.alloc A).alloc B).heap.size = w.heap.size + 1 + 1 := by simp
  rw [hN] at b3
  have hs := b3.size
  rw [hN] at hs
  exact ⟨(r.block _ (by omega) (by omega)).trans ((b3.block _ (by omega)).trans (blk2 w A B).1), ((two_below w A B).trans (b3.mono (by omega))).trans (r.to_below (by omega) (by omega))⟩
attribute [local go_sem ↓] ld31_eq
section
set_option maxRecDepth 10000
set_option maxHeartbeats 1000000
theorem hsum_any (b : Nat) (t : List UInt8) (w : World) (hK : Kg w) (hs : t.length < 2305843009213693000) (h : Hat w b t) : Calls Tryd.prog 55 #[.pointer (some ⟨b, 0, none⟩)] w fun e w' => e = .returned (.agg (hc (digest t))) ∧ Below w.heap.size w w' := by
  obtain ⟨cs, hcs, hz, h1⟩ : ∃ cs, w.heap[b]? = some (.cells cs 119 (0, 0)) ∧ cs.size = 73 ∧ cs.all (·.oneCell') = true := by
    obtain ⟨tl, hl, ht, hh⟩ := h
    exact ⟨_, hh.heap hl, hsA_size _ _ _ hl, hsA_one _ _ _⟩
  have HZ := hide hz
  have HO := hide h1
  have HP := hide ((Below.heap_alloc w (.cells (hc zeros) 31) _ h.lt).trans hcs)
  obtain ⟨c72, HA⟩ := sum_mid (A := .cells (hc zeros) 31) h hcs
  have K2 := hide (hK.next (two_below w (.cells (hc zeros) 31) (.cells cs 119)))
  have hpad := hide fun W => pad_any t.length (by omega) W
  have hpl : (⟨(padL t.length).toArray⟩ : ByteArray).size = 9 + padZ t.length := by
    show (padL t.length).toArray.size = _
    rw [List.size_toArray, padL_len]
  have hzl := padZ_lt t.length
  have HW := hide fun W hW hH => write_any (w.heap.size + 1) t ⟨(padL t.length).toArray⟩ W hW (by have := hK.lt; omega) (by rw [hpl]; omega) hH
  have HL := hide fun W => laid_any (fin t) W
  have hfin : stN (t ++ padL t.length) ((t ++ padL t.length).length / 64) = fin t := rfl
  have HF := hide hfin
  have hdl := digest_len t
  clear hz h1 hcs hK h hfin hpl
  go_enter Tryd.func55, Tryd.ntmps55
  go_wp2_with (first | refine wpList_allocA A25 rfl rfl ?_ | refine wpList_loadA A72 rfl _ rfl _ rfl cs HZ.out 119 HP.out ?_ | refine wpList_allocA A72 rfl rfl ?_ | refine wpList_store_newA A72 rfl _ _ rfl _ rfl cs HZ.out HO.out rfl rfl ?_ | (go_at_call 63; refine (hpad.out _).mono ?_; rintro e w3 ⟨rfl, b3⟩) | (go_at_call 54; refine (HW.out _ (K2.out.next b3) (HA.out.below b3)).mono ?_; rintro e w4 ⟨rfl, h4, r4⟩; have l4 := h4.ld31; rw [HF.out] at l4; obtain ⟨n4, B4⟩ := sum_end b3 r4; clear h4 r4 b3) | (go_at_call 64; refine (HL.out _).mono ?_; rintro e w5 ⟨rfl, b5⟩; have n5 := hide ((b5.block _ (lt_heap n4.out)).trans n4.out); have B5 := hide (B4.out.trans (b5.mono B4.out.size)); clear b5) | refine wpList_storeA A25 rfl _ _ rfl _ (hc (digest t)) (by rw [hc_size, hdl]) (hc_one _) rfl rfl (hc zeros) (by rw [hc_size, zeros_len]) 31 n5.out ?_)
  exact bodyPost_ret (v := .agg (hc (digest t))) (resA A25 Tryd.results55 _ _ w.heap.size 31 _ (by rw [hc_size, hdl]) rfl (setRow_heap _ _ _ _ _ _ n5.out)) rfl ⟨rfl, below_setRow B5.out (Nat.le_refl _) _⟩
end
end Go.Proofs.YtfldpejdpinppaaDoor
