/- Hashes as texts: the contracts of num.turn, Text, Compare and Parse. -/
import Derived.Test.YtempdhoccilhdaaDoorXa
import Derived.Test.YtempdhoccilhdaaDoorL
namespace Go.Proofs.YtempdhoccilhdaaDoor
open Go.RowKit
open Go.Deep
/-- The byte k of a hash. -/
def hb (h : List UInt8) (k : Nat) : Int := (h.getD k 0).toNat
theorem hcb_at (h : List UInt8) (k : Nat) (hk : k < h.length) : (hc h)[k]? = some (.int .u8 (hb h k)) := by
  simp [hc, cellsL, hb, hk]
theorem row_of_hc {wr : World} {g : Nat} {h : List UInt8} (hl : h.length = 32) {t : TypeId} (hg : wr.heap[g]? = some (.cells (hc h) t (0, 0))) : wr.rowIs g t 32 (fun j => .int .u8 (hb h j)) :=
  ⟨hc h, hg, by rw [hc_size, hl], fun i hi => hcb_at h i (by omega)⟩
theorem hc_of_row {wr : World} {g : Nat} {h : List UInt8} (hl : h.length = 32) {t : TypeId} {f : Nat → Value} (hr : wr.rowIs g t 32 f) (hf : ∀ i, i < 32 → f i = .int .u8 (hb h i)) : wr.heap[g]? = some (.cells (hc h) t (0, 0)) := by
  obtain ⟨c, hg, hn, hcs⟩ := hr
  rw [hg]
  have : c = hc h := by
    apply Array.ext
    · rw [hc_size, hl, hn]
    · intro i h1 h2
      have e := hcs i (by omega)
      rw [hf i (by omega), ← hcb_at h i (by omega), Array.getElem?_eq_getElem h1, Array.getElem?_eq_getElem h2] at e
      exact Option.some.inj e
  rw [this]
/-- What is turned behind k rounds. -/
def turnF (h : List UInt8) (k j : Nat) : Value := if 31 - j < k then .int .u8 (hb h (31 - j)) else .int .u8 0
theorem turnF_step (h : List UInt8) (k j : Nat) (hk : k < 32) (hj : j < 32) : (if j = 31 - k then Value.int .u8 (hb h k) else turnF h k j) = turnF h (k + 1) j := by
  unfold turnF
  by_cases e : j = 31 - k
  · rw [if_pos e, if_pos (by omega), show 31 - j = k by omega]
  · rw [if_neg e]
    by_cases e2 : 31 - j < k
    · rw [if_pos e2, if_pos (by omega)]
    · rw [if_neg e2, if_neg (by omega)]
theorem turnF_end (h : List UInt8) (hl : h.length = 32) (j : Nat) (hj : j < 32) : turnF h 32 j = .int .u8 (hb h.reverse j) := by
  unfold turnF hb
  rw [if_pos (by omega), List.getD_eq_getElem?_getD, List.getD_eq_getElem?_getD, List.getElem?_reverse (by omega), hl]
theorem turnF_zero (h : List UInt8) (j : Nat) (hj : j < 32) : turnF h 0 j = .int .u8 (hb zeros j) := by
  unfold turnF hb zeros
  rw [if_neg (by omega), List.getD_eq_getElem?_getD, List.getElem?_replicate, if_pos hj]
  rfl
section
set_option maxRecDepth 10000
set_option maxHeartbeats 400000
theorem hturn_any (h : List UInt8) (hl : h.length = 32) (w : World) : Calls Tryd.prog 49 #[.agg (hc h)] w fun e w' => e = .returned (.agg (hc h.reverse)) ∧ Below w.heap.size w w' := by
  go_enter Tryd.func49, Tryd.ntmps49
  go_wp2_with (first | refine wpList_boxA rfl _ rfl (hc h) rfl ?_ | refine wpList_allocA A25 rfl rfl ?_)
  obtain ⟨b0, b1, b2⟩ := blk3 w (.cells (hc h) 25) (.cells (hc zeros) 25) (.cells (hc zeros) 25)
  have R0 := hide (row_of_hc hl b0)
  have R1 := hide b1
  have R2 := hide ((row_of_hc zeros_len b2).congr (fun i hi => (turnF_zero h i hi).symm))
  have BB : Hid (Below w.heap.size w (((w.alloc (.cells (hc h) 25)).alloc (.cells (hc zeros) 25)).alloc (.cells (hc zeros) 25))) := (((Below.refl _ _).alloc (Nat.le_refl _) _).alloc (by simp) _).alloc (by simp; omega) _
  clear b0 b1 b2
  go_loopw [4, 5] (fun _ c wr => ∃ k : Nat, k ≤ 32 ∧ c = .int .i64 k ∧ Hid (wr.rowIs w.heap.size 25 32 (fun j => .int .u8 (hb h j))) ∧ Hid (wr.heap[w.heap.size + 1]? = some (.cells (hc zeros) 25 (0, 0))) ∧ Hid (wr.rowIs (w.heap.size + 1 + 1) 25 32 (turnF h k)) ∧ Hid (Below w.heap.size w wr)) (fun _ c _ => (32 - intOf c).toNat)
  case atStart => exact ⟨0, by omega, rfl, R0, R1, R2, BB⟩
  case round =>
    clear R0 R1 R2 BB
    obtain ⟨k, hk, rfl, r0, r1, r2, bb⟩ := hrel
    by_cases hlt : k < 32
    · have c0 := r0.out.cell hlt
      have f2 := r2.out.frozen (31 - k)
      have c2 := r2.out.cell (show 31 - k < 32 by omega)
      have ht : ((31 : Int) - k).toNat = 31 - k := by omega
      have hk' : (k : Int) < 32 := by omega
      have hw : IntKind.i64.wrap (31 - (k : Int)) = 31 - k := by simp only [IntKind.wrap, IntKind.signed, IntKind.bits]; simp; omega
      go_wp2
      exact ⟨⟨k + 1, by omega, by go_num, hide (r0.out.setOther (by simp; omega) _), hide ((blk_setCell_other _ _ _ _ (by simp)).trans r1.out), hide ((r2.out.set _ _).congr (fun i hi => turnF_step h k i hlt hi)), hide (bb.out.setCell (by simp; omega) _)⟩, by simp [intOf]; omega⟩
    · have hke : k = 32 := by omega
      subst hke
      have hl' : h.reverse.length = 32 := by rw [List.length_reverse, hl]
      have H2 := hc_of_row hl' r2.out (turnF_end h hl)
      go_wp2_with (first | refine wpList_loadA A25 rfl _ rfl _ rfl (hc h.reverse) (by rw [hc_size, hl']) 25 H2 ?_ | refine wpList_storeA A25 rfl _ _ rfl _ (hc h.reverse) (by rw [hc_size, hl']) (hc_one _) rfl rfl (hc zeros) A25.zsize 25 r1.out ?_)
      exact bodyPost_ret (v := .agg (hc h.reverse)) (resA A25 Tryd.results49 _ _ (w.heap.size + 1) 25 (hc h.reverse) (by rw [hc_size, hl']) rfl (setRow_heap _ _ _ _ _ _ r1.out)) rfl ⟨rfl, below_setRow bb.out (by omega) _⟩
theorem text_any (h : List UInt8) (hl : h.length = 32) (w : World) : Calls Tryd.prog 42 #[.agg (hc h)] w fun e w' => e = .returned (.string ⟨(hexL h.reverse).toArray⟩) ∧ Below w.heap.size w w' := by
  have hl' : h.reverse.length = 32 := by rw [List.length_reverse, hl]
  have hz : (⟨h.reverse.toArray⟩ : ByteArray).size ≤ 35184372088832 := by
    show h.reverse.toArray.size ≤ _
    rw [List.size_toArray, hl']
    decide
  have HT := hide fun W => hturn_any h hl W
  have HH := hide fun W => hex_any ⟨h.reverse.toArray⟩ W hz
  have B1 := hide ((Below.refl w.heap.size w).alloc (Nat.le_refl _) (.cells (hc h) 25))
  go_enter Tryd.func42, Tryd.ntmps42
  go_wp2_with (first | refine wpList_boxA rfl _ rfl (hc h) rfl ?_ | refine wpList_loadA A25 rfl _ rfl _ rfl (hc h) (by rw [hc_size, hl]) 25 (heap_alloc_last w _) ?_ | (go_at_call 49; refine (HT.out _).mono ?_; rintro e w1 ⟨rfl, hb1⟩; have B2 := hide (B1.out.trans (hb1.mono (by simp))); have hcv := conv_row (w1.alloc (.cells (hc h.reverse) 25)) w1.heap.size h.reverse hl' 25 (heap_alloc_last w1 _)) | refine wpList_allocA A25 rfl rfl ?_ | refine wpList_store_newA A25 rfl _ _ rfl _ rfl _ (by rw [hc_size, hl']) (hc_one _) rfl rfl ?_ | (go_at_call 50; refine (HH.out _).mono ?_; rintro e w2 ⟨rfl, hb2⟩))
  go_ret
  exact ⟨rfl, (B2.out.alloc B2.out.size _).trans (hb2.mono (by have := B2.out.size; simp; omega))⟩
end
/-- How two numbers stand to one another, by their k lowest bytes. -/
def cmpK (a b : Nat → Int) : Nat → Int
  | 0 => 0
  | k + 1 => if a k < b k then -1 else if b k < a k then 1 else cmpK a b k
theorem cmpK_lt {a b : Nat → Int} {k n : Nat} (h : cmpK a b (k + 1) = cmpK a b n) (hl : a k < b k) : cmpK a b n = -1 := by
  rw [← h, cmpK, if_pos hl]
theorem cmpK_gt {a b : Nat → Int} {k n : Nat} (h : cmpK a b (k + 1) = cmpK a b n) (hl : ¬ a k < b k) (hg : b k < a k) : cmpK a b n = 1 := by
  rw [← h, cmpK, if_neg hl, if_pos hg]
theorem cmpK_eq {a b : Nat → Int} {k n : Nat} (h : cmpK a b (k + 1) = cmpK a b n) (hl : ¬ a k < b k) (hg : ¬ b k < a k) : cmpK a b k = cmpK a b n := by
  rw [← h, cmpK, if_neg hl, if_neg hg]
theorem hb_lt (h : List UInt8) (k : Nat) : 0 ≤ hb h k ∧ hb h k < 256 := by
  unfold hb
  have := (h.getD k 0).toNat_lt
  omega
theorem hb_at (h : List UInt8) (k : Nat) (hk : k < (⟨h.toArray⟩ : ByteArray).size) : (((⟨h.toArray⟩ : ByteArray)[k].toNat : Nat) : Int) = hb h k := by
  have hk' : k < h.length := by have : (⟨h.toArray⟩ : ByteArray).size = h.length := by show h.toArray.size = _; simp
                                omega
  unfold hb
  rw [List.getD_eq_getElem?_getD, List.getElem?_eq_getElem hk']
  rfl
section
set_option maxRecDepth 10000
set_option maxHeartbeats 400000
theorem compare_any (h g : List UInt8) (hl : h.length = 32) (gl : g.length = 32) (w : World) : Calls Tryd.prog 43 #[.agg (hc h), .agg (hc g)] w fun e w' => e = .returned (.int .i64 (cmpK (hb h) (hb g) 32)) ∧ Below w.heap.size w w' := by
  go_enter Tryd.func43, Tryd.ntmps43
  go_wp2_with (first | refine wpList_boxA rfl _ rfl (hc h) rfl ?_ | refine wpList_boxA rfl _ rfl (hc g) rfl ?_)
  have R0 := hide (row_of_hc hl (heap_alloc2_old w (.cells (hc h) 25) (.cells (hc g) 25)))
  have R1 := hide (row_of_hc gl (heap_alloc2_new w (.cells (hc h) 25) (.cells (hc g) 25)))
  have BB := hide (two_below w (.cells (hc h) 25) (.cells (hc g) 25))
  go_loopw [5] (fun c wr => ∃ k : Nat, k ≤ 32 ∧ c = .int .i64 ((k : Int) - 1) ∧ Hid (cmpK (hb h) (hb g) k = cmpK (hb h) (hb g) 32) ∧ Hid (wr.rowIs w.heap.size 25 32 (fun j => .int .u8 (hb h j))) ∧ Hid (wr.rowIs (w.heap.size + 1) 25 32 (fun j => .int .u8 (hb g j))) ∧ Hid (Below w.heap.size w wr)) (fun c _ => (1 + intOf c).toNat)
  case atStart => exact ⟨32, by omega, rfl, rfl, R0, R1, BB⟩
  case round =>
    clear R0 R1 BB
    obtain ⟨k, hk, rfl, hcm, r0, r1, bb⟩ := hrel
    cases k with
    | zero =>
      go_wp2
      go_ret
      exact ⟨by rw [← hcm.out]; rfl, bb.out⟩
    | succ k =>
      have hw : ((k + 1 : Nat) : Int) - 1 = k := by omega
      rw [hw]
      have c0 := r0.out.cell (show k < 32 by omega)
      have c1 := r1.out.cell (show k < 32 by omega)
      have k0 : (0 : Int) ≤ k := by omega
      have k1 : (k : Int) < 32 := by omega
      by_cases h1 : hb h k < hb g k
      · have HE := hide (cmpK_lt hcm.out h1)
        generalize hb h k = x at *
        generalize hb g k = y at *
        go_wp2
        go_quiet (fail)
        go_wp2
        go_ret
        exact ⟨by rw [HE.out]; rfl, below_drewN bb.out _⟩
      · by_cases h2 : hb g k < hb h k
        · have HE := hide (cmpK_gt hcm.out h1 h2)
          generalize hb h k = x at *
          generalize hb g k = y at *
          go_wp2
          go_quiet (fail)
          go_wp2
          go_quiet (fail)
          go_wp2
          go_ret
          exact ⟨by rw [HE.out]; rfl, below_drewN (below_drewN bb.out _) _⟩
        · have HE := hide (cmpK_eq hcm.out h1 h2)
          generalize hb h k = x at *
          generalize hb g k = y at *
          go_wp2
          go_quiet (fail)
          go_wp2
          go_quiet (fail)
          go_wp2
          exact ⟨⟨k, by omega, by go_num, HE, r0, r1, hide (below_drewN bb.out _)⟩, by simp [intOf]; omega⟩
end
theorem res33_3 {fn : Func} {p u v : Tmp} (hf : fn.results = #[.cell p 25, .tmp u, .tmp v]) (tmps : Array Value) (w : World) (g : Nat) (t : TypeId) (l : List UInt8) (hl : l.length = 32)
    (hp : tmps.getD p undef = .pointer (some ⟨g, 0, none⟩)) (hg : w.heap[g]? = some (.cells (hc l) t (0, 0))) (x y : Value) (hx : tmps.getD u undef = x) (hy : tmps.getD v undef = y) :
    (results fn tmps).run Tryd.prog w = .ok (.tuple #[.agg (hc l), x, y]) w := by
  subst hx hy
  have hp' : tmps[p]?.getD undef = .pointer (some ⟨g, 0, none⟩) := by simpa using hp
  simp [results, hf, hp', asAddr, run_loadVar_row w g t 25 (hc l) (0, 0) _ hg Tryd.underlying25 rfl (by rw [A25.info, hc_size, hl])]
theorem size5' : (Tryd.prog.info? 5).map (·.size) = some 1 := by kernel_rfl
theorem copy33s (w : World) (g g2 : Nat) (l l0 : List UInt8) (hl : l.length = 32) (hl0 : l0.length = 32) (t t2 : TypeId) (hg : w.heap[g]? = some (.cells (hc l0) t (0, 0))) (hg2 : w.heap[g2]? = some (.cells (hc l) t2 (0, 0))) :
    (Builtin.copy_ #[46, 46] 3 #[.slice (some ⟨g, 0, none⟩) 32 32, .slice (some ⟨g2, 0, none⟩) 32 32]).run Tryd.prog w = .ok (.int .i64 32) (w.setRow g (hc l)) := by
  have hle : (cellsL l).length = 32 := by rw [cellsL_len]; exact hl
  have := run_copy_row (P := Tryd.prog) w 46 46 3 5 g 0 32 32 ⟨g2, 0, none⟩ 32 32 (hc l0) t (cellsL l) Tryd.underlying46 size5' hg (by rw [hle]; decide) (fun j u hu => by
    have hadd : (⟨g2, 0, none⟩ : Addr).add j = ⟨g2, j, none⟩ := by unfold Addr.add; split <;> simp_all
    rw [hadd, cell_of_row w g2 j _ t2 (0, 0) hg2]
    simpa [hc] using hu) (by rw [hle, hc_size, hl0]; decide) (fun v hv => by simp only [cellsL, List.mem_map] at hv; obtain ⟨b, _, rfl⟩ := hv; rfl)
  rw [this, hle, List.take_zero, List.nil_append, Nat.zero_add, List.drop_of_length_le (by rw [Array.length_toList, hc_size, hl0]; exact Nat.le_refl _), List.append_nil]
  rfl
theorem parse_mid {w w3 : World} {L : List UInt8} (hul : L.length = 32)
    (hrow : w3.heap[((w.alloc (.cells (hc zeros) 25)).alloc (.cells (hc zeros) 25)).drew.heap.size]? = some (.cells (hc L) 5 (0, 0)))
    (hbel : Below ((w.alloc (.cells (hc zeros) 25)).alloc (.cells (hc zeros) 25)).drew.heap.size ((w.alloc (.cells (hc zeros) 25)).alloc (.cells (hc zeros) 25)).drew w3) :
    Hid ((w3.setRow (w.heap.size + 1) (hc L)).heap[w.heap.size]? = some (.cells (hc zeros) 25 (0, 0))) ∧
    (Builtin.copy_ #[46, 46] 3 #[.slice (some ⟨w.heap.size + 1, 0, none⟩) 32 32, .slice (some ⟨w.heap.size + 1 + 1, 0, none⟩) 32 32]).run Tryd.prog w3 = .ok (.int .i64 32) (w3.setRow (w.heap.size + 1) (hc L)) ∧
    Hid ((w3.setRow (w.heap.size + 1) (hc L)).heap[w.heap.size + 1]? = some (.cells (hc L) 25 (0, 0))) ∧ Hid (Below w.heap.size w (w3.setRow (w.heap.size + 1) (hc L))) := by
  have hN : ((w.alloc (.cells (hc zeros) 25)).alloc (.cells (hc zeros) 25)).drew.heap.size = w.heap.size + 1 + 1 := by simp
  rw [hN] at hrow hbel
  have h0 : w3.heap[w.heap.size]? = some (.cells (hc zeros) 25 (0, 0)) := (hbel.block _ (by omega)).trans (heap_alloc2_old w _ _)
  have h1 : w3.heap[w.heap.size + 1]? = some (.cells (hc zeros) 25 (0, 0)) := (hbel.block _ (by omega)).trans (heap_alloc2_new w _ _)
  have b := (two_below w (.cells (hc zeros) 25) (.cells (hc zeros) 25)).drew.trans (hbel.mono (by omega))
  exact ⟨(setRow_other _ _ _ _ (by omega)).trans h0, copy33s w3 _ _ L zeros hul zeros_len 25 5 h1 hrow, setRow_heap _ _ _ _ _ _ h1, below_setRow b (by omega) _⟩
section
set_option maxRecDepth 10000
set_option maxHeartbeats 400000
theorem parse_bad (s : ByteArray) (hs : s.size ≤ 281474976710656) (h : min (good s.data.toList) 64 < 64 ∨ 64 < s.size) (w : World) : Calls Tryd.prog 44 #[.string s] w fun e w' =>
    e = .returned (.tuple #[.agg (hc zeros), .int .i64 (min (good s.data.toList) 64 : Nat), .int .i64 10]) ∧ Below w.heap.size w w' := by
  have HG := hide fun W => goodDigits_any s (by unfold maxLen; omega) W
  have hgl := good_le s.data.toList
  have hsz : s.data.toList.length = s.size := by simp
  generalize good s.data.toList = n at *
  by_cases h1 : n < 64
  · rw [show min n 64 = n by omega]
    have hm : min (n : Int) 64 = n := by omega
    clear h
    go_enter Tryd.func44, Tryd.ntmps44
    go_wp2_with (first | refine wpList_allocA A25 rfl rfl ?_ | (go_at_call 51; refine (HG.out _).mono ?_; rintro e w1 ⟨rfl, rfl⟩) | refine wpList_buildA A25 rfl rfl ?_ | refine wpList_store_newA A25 rfl _ _ rfl _ rfl _ (by rw [hc_size, zeros_len]) (hc_one _) rfl rfl ?_)
    exact bodyPost_ret (v := .tuple #[.agg (hc zeros), .int .i64 n, .int .i64 10]) (res33_3 Tryd.results44 _ _ w.heap.size 25 zeros zeros_len rfl (heap_alloc_last w _) _ _ rfl rfl) rfl ⟨rfl, (Below.refl _ _).alloc (Nat.le_refl _) _⟩
  · have h2 : 64 < s.size := by omega
    rw [show min n 64 = 64 by omega]
    have h2' : (64 : Int) < s.size := by omega
    have h1' : ¬ (n : Int) < 64 := by omega
    clear h
    by_cases h3 : n = 64
    · subst h3
      rw [show (((64 : Nat) : Int)) = 64 from rfl] at HG
      clear h1' h1
      go_enter Tryd.func44, Tryd.ntmps44
      go_wp2_with (first | refine wpList_allocA A25 rfl rfl ?_ | (go_at_call 51; refine (HG.out _).mono ?_; rintro e w1 ⟨rfl, rfl⟩) | refine wpList_buildA A25 rfl rfl ?_ | refine wpList_store_newA A25 rfl _ _ rfl _ rfl _ (by rw [hc_size, zeros_len]) (hc_one _) rfl rfl ?_)
      exact bodyPost_ret (v := .tuple #[.agg (hc zeros), .int .i64 64, .int .i64 10]) (res33_3 Tryd.results44 _ _ w.heap.size 25 zeros zeros_len rfl (heap_alloc_last w _) _ _ rfl rfl) rfl ⟨rfl, (Below.refl _ _).alloc (Nat.le_refl _) _⟩
    · have h4 : ¬ (n : Int) ≤ 64 := by omega
      go_enter Tryd.func44, Tryd.ntmps44
      go_wp2_with (first | refine wpList_allocA A25 rfl rfl ?_ | (go_at_call 51; refine (HG.out _).mono ?_; rintro e w1 ⟨rfl, rfl⟩) | refine wpList_buildA A25 rfl rfl ?_ | refine wpList_store_newA A25 rfl _ _ rfl _ rfl _ (by rw [hc_size, zeros_len]) (hc_one _) rfl rfl ?_)
      exact bodyPost_ret (v := .tuple #[.agg (hc zeros), .int .i64 64, .int .i64 10]) (res33_3 Tryd.results44 _ _ w.heap.size 25 zeros zeros_len rfl (heap_alloc_last w _) _ _ rfl rfl) rfl ⟨rfl, (Below.refl _ _).alloc (Nat.le_refl _) _⟩
theorem parse_good (s : ByteArray) (h : s.size = 64) (ha : s.data.toList.all isD = true) (w : World) : Calls Tryd.prog 44 #[.string s] w fun e w' =>
    e = .returned (.tuple #[.agg (hc (unhexL s.data.toList).reverse), .int .i64 0, .int .i64 0]) ∧ Below w.heap.size w w' := by
  have HG := hide fun W => goodDigits_any s (by unfold maxLen; omega) W
  have HP := hide fun W => pairs_any s (by omega) ha W
  have hul := unhexL_len s.data.toList
  have hsz : s.data.toList.length = s.size := by simp
  rw [hsz, h] at hul
  rw [good_full s ha] at HG
  rw [h] at HG HP
  rw [show (((64 : Nat) : Int)) = 64 from rfl] at HG
  generalize unhexL s.data.toList = L at *
  have HT := hide fun W => hturn_any L hul W
  have hlr : L.reverse.length = 32 := by rw [List.length_reverse, hul]
  have hs' : (s.size : Int) = 64 := by omega
  clear ha hsz
  go_enter Tryd.func44, Tryd.ntmps44
  go_wp2_with (first | refine wpList_allocA A25 rfl rfl ?_ | (go_at_call 51; refine (HG.out _).mono ?_; rintro e w1 ⟨rfl, rfl⟩))
  go_region_with (go_at_call 52; refine (HP.out _).mono ?_; rintro e w3 ⟨rfl, hrow, hbel⟩; obtain ⟨H0, hcp, H1, B3⟩ := parse_mid hul hrow hbel; clear hrow hbel)
  all_goals go_wp2_with (first | refine wpList_loadA A25 rfl _ rfl _ rfl (hc L) (by rw [hc_size, hul]) 25 H1.out ?_ | (go_at_call 49; refine (HT.out _).mono ?_; rintro e w5 ⟨rfl, hb5⟩; have H5 := hide ((hb5.block _ (lt_heap H0.out)).trans H0.out); have B5 := hide (B3.out.trans (hb5.mono B3.out.size)); clear hb5) | refine wpList_storeA A25 rfl _ _ rfl _ (hc L.reverse) (by rw [hc_size, hlr]) (hc_one _) rfl rfl (hc zeros) A25.zsize 25 H5.out ?_)
  all_goals exact bodyPost_ret (v := .tuple #[.agg (hc L.reverse), .int .i64 0, .int .i64 0]) (res33_3 Tryd.results44 _ _ w.heap.size 25 L.reverse hlr rfl (setRow_heap _ _ _ _ _ _ H5.out) _ _ rfl rfl) rfl ⟨rfl, below_setRow B5.out (Nat.le_refl _) _⟩
end
end Go.Proofs.YtempdhoccilhdaaDoor
