/- The document's Parse; sha's Zero and Parse. -/
import Derived.Test.YtempdhoccilhdaaDoorXc
namespace Go.Proofs.YtempdhoccilhdaaDoor
open Go.RowKit
open Go.Deep
theorem eqb2 (h g : List UInt8) (hl : h.length = 32) (gl : g.length = 32) (W : World) : (Op.equalIn 10000 25 (.agg (hc h)) (.agg (hc g))).run Tryd.prog W = .ok (h == g) W :=
  run_equalIn_bytes (P := Tryd.prog) W 9998 25 5 32 Tryd.underlying25 Tryd.underlying5 size5 h g hl gl
/-- The digit i of a text, as a number. -/
def dv (s : ByteArray) (i : Nat) : Nat := vd (s.data.toList.getD i 0).toNat
theorem dv_at (s : ByteArray) (i : Nat) (h : i < s.size) : dv s i = vd s[i].toNat := by
  unfold dv
  rw [List.getD_eq_getElem?_getD, List.getElem?_eq_getElem (by simpa using h)]
  rfl
/-- The byte j, counted from the last, behind k digits. -/
def pcell (s : ByteArray) (k j : Nat) : Int := if 2 * j + 1 < k then pv s j else if 2 * j < k then (dv s (2 * j) : Int) else 0
theorem pc_step (s : ByteArray) (k : Nat) (hk : k < s.size) (h : ∀ i, i ≤ k → dv s i ≠ 16) : 16 * pcell s k (k / 2) + (dv s k : Int) = pcell s (k + 1) (k / 2) ∧ 0 ≤ pcell s k (k / 2) ∧ pcell s k (k / 2) < 16 ∧ dv s k < 16 := by
  have l0 := vd_lt (h k (Nat.le_refl _))
  have e0 : dv s k = vd (s.data.toList.getD k 0).toNat := rfl
  by_cases ho : k % 2 = 0
  · have e1 : pcell s k (k / 2) = 0 := by unfold pcell; rw [if_neg (by omega), if_neg (by omega)]
    have e2 : pcell s (k + 1) (k / 2) = (dv s k : Int) := by unfold pcell; rw [if_neg (by omega), if_pos (by omega), show 2 * (k / 2) = k by omega]
    rw [e1, e2]
    exact ⟨by omega, by omega, by omega, l0⟩
  · have l1 := vd_lt (h (2 * (k / 2)) (by omega))
    have e1 : pcell s k (k / 2) = (dv s (2 * (k / 2)) : Int) := by unfold pcell; rw [if_neg (by omega), if_pos (by omega)]
    have hk2 : 2 * (k / 2) + 1 = k := by omega
    have e2 : pcell s (k + 1) (k / 2) = pv s (k / 2) := by unfold pcell; rw [if_pos (by omega)]
    have h1 := h (2 * (k / 2)) (by omega)
    have h2 := h (2 * (k / 2) + 1) (by omega)
    rw [dv_at s _ (by omega)] at h1 h2
    have e3 := pv_at s (k / 2) (by omega) h1 h2
    rw [← dv_at s _ (by omega), ← dv_at s _ (by omega)] at e3
    have e4 : dv s (2 * (k / 2) + 1) = dv s k := by rw [hk2]
    rw [e4] at e3
    rw [e1, e2, e3]
    have l1' : dv s (2 * (k / 2)) < 16 := l1
    exact ⟨by omega, by omega, by omega, l0⟩
theorem pc_other (s : ByteArray) (k j : Nat) (h : j ≠ k / 2) : pcell s (k + 1) j = pcell s k j := by
  unfold pcell
  by_cases h1 : 2 * j + 1 < k
  · rw [if_pos h1, if_pos (by omega)]
  · rw [if_neg h1]
    by_cases h2 : 2 * j < k
    · exfalso; omega
    · rw [if_neg h2, if_neg (by omega), if_neg (by omega)]
theorem pc_zero (s : ByteArray) (j : Nat) : pcell s 0 j = 0 := by
  unfold pcell
  rw [if_neg (by omega), if_neg (by omega)]
theorem pc_row (s : ByteArray) (k j : Nat) (hj : j < 32) (hk : k < 64) : (if j = 31 - k / 2 then Value.int .u8 (pcell s (k + 1) (k / 2)) else .int .u8 (pcell s k (31 - j))) = .int .u8 (pcell s (k + 1) (31 - j)) := by
  by_cases h : j = 31 - k / 2
  · rw [if_pos h, show 31 - j = k / 2 by omega]
  · rw [if_neg h, pc_other s k (31 - j) (by omega)]
theorem pc_end (s : ByteArray) (h : s.size = 64) (j : Nat) (hj : j < 32) : Value.int .u8 (pcell s 64 (31 - j)) = .int .u8 (hb (unhexL s.data.toList).reverse j) := by
  have hl := unhexL_len s.data.toList
  have hz : s.data.toList.length = s.size := by simp
  congr 1
  unfold pcell pv hb
  rw [if_pos (by omega), List.getD_eq_getElem?_getD, List.getD_eq_getElem?_getD, List.getElem?_reverse (by omega)]
  congr 4
  omega
theorem dv_ok (s : ByteArray) (k : Nat) (hk : k < s.size) (ha : (s.data.toList.take k).all isD = true) (hd : vd s[k].toNat ≠ 16) : ∀ i, i ≤ k → dv s i ≠ 16 := by
  intro i hi
  rw [dv_at s i (by omega)]
  by_cases e : i = k
  · subst e; exact hd
  · have := List.all_eq_true.1 ha (s[i]'(by omega)) (by
      rw [List.mem_take_iff_getElem]
      exact ⟨i, by simp; omega, rfl⟩)
    simpa [isD] using this
/-- What Parse answers: the bytes, the place; -1: it is one. -/
def parseS (s : ByteArray) : List UInt8 × Int := if min (good s.data.toList) 64 < 64 ∨ 64 < s.size then (zeros, ((min (good s.data.toList) 64 : Nat) : Int)) else ((unhexL s.data.toList).reverse, -1)
theorem parseS_long (s : ByteArray) (h : 64 < s.size) (ha : (s.data.toList.take 64).all isD = true) : parseS s = (zeros, 64) := by
  have := good_ge s.data.toList 64 (by simp; omega) ha
  unfold parseS
  rw [if_pos (.inr h), show min (good s.data.toList) 64 = 64 by omega]
  rfl
theorem parseS_bad (s : ByteArray) (k : Nat) (h : k < s.size) (hk : k < 64) (ha : (s.data.toList.take k).all isD = true) (hb : isD s[k] = false) : parseS s = (zeros, (k : Int)) := by
  have e := good_at s.data.toList k (by simp; omega) ha (fun _ => hb)
  unfold parseS
  rw [if_pos (.inl (by omega)), e, show min k 64 = k by omega]
theorem parseS_short (s : ByteArray) (h : s.size < 64) (ha : s.data.toList.all isD = true) : parseS s = (zeros, (s.size : Int)) := by
  have e := good_full s ha
  unfold parseS
  rw [if_pos (.inl (by omega)), e, show min s.size 64 = s.size by omega]
theorem parseS_ok (s : ByteArray) (h : s.size = 64) (ha : s.data.toList.all isD = true) : parseS s = ((unhexL s.data.toList).reverse, -1) := by
  have e := good_full s ha
  unfold parseS
  rw [if_neg (by omega)]
theorem parseS_len (s : ByteArray) : (parseS s).1.length = 32 := by
  unfold parseS
  by_cases h : min (good s.data.toList) 64 < 64 ∨ 64 < s.size
  · rw [if_pos h]; exact zeros_len
  · rw [if_neg h]
    have hgl := good_le s.data.toList
    have hsz : s.data.toList.length = s.size := by simp
    show (unhexL s.data.toList).reverse.length = 32
    rw [List.length_reverse, unhexL_len]
    omega
theorem res24_2 {fn : Func} {p u : Tmp} (hf : fn.results = #[.cell p 24, .tmp u]) (tmps : Array Value) (w : World) (g : Nat) (t : TypeId) (l : List UInt8) (hl : l.length = 32)
    (hp : tmps.getD p undef = .pointer (some ⟨g, 0, none⟩)) (hg : w.heap[g]? = some (.cells (hc l) t (0, 0))) (x : Value) (hx : tmps.getD u undef = x) :
    (results fn tmps).run Tryd.prog w = .ok (.tuple #[.agg (hc l), x]) w := by
  subst hx
  have hp' : tmps[p]?.getD undef = .pointer (some ⟨g, 0, none⟩) := by simpa using hp
  simp [results, hf, hp', asAddr, run_loadVar_row w g t 24 (hc l) (0, 0) _ hg Tryd.underlying24 rfl (by rw [A24.info, hc_size, hl])]
section
set_option maxRecDepth 10000
set_option maxHeartbeats 800000
theorem szero_any (h : List UInt8) (hl : h.length = 32) (w : World) : Calls Tryd.prog 30 #[.agg (hc h)] w fun e w' => e = .returned (.bool (h == zeros)) ∧ Below w.heap.size w w' := by
  have HE := hide fun W => eqb2 h zeros hl zeros_len W
  go_enter Tryd.func30, Tryd.ntmps30
  go_wp2_with (first | refine wpList_boxA rfl _ rfl (hc h) rfl ?_ | refine wpList_loadA A25 rfl _ rfl _ rfl (hc h) (by rw [hc_size, hl]) 25 (heap_alloc_last w _) ?_ | refine wpList_buildA A25 rfl rfl ?_ | refine wpList_eql 25 _ _ _ rfl (hc h) (hc zeros) rfl rfl rfl eqg25 _ HE.out ?_)
  go_ret
  exact ⟨rfl, (Below.refl _ _).alloc (Nat.le_refl _) _⟩
theorem rparse_any (s : ByteArray) (hs : s.size ≤ 281474976710656) (w : World) : Calls Tryd.prog 32 #[.string s] w fun e w' =>
    e = .returned (.tuple #[.agg (hc (parseS s).1), .int .i64 (parseS s).2]) ∧ Below w.heap.size w w' := by
  go_enter Tryd.func32, Tryd.ntmps32
  go_wp2_with (first | refine wpList_allocA A24 rfl rfl ?_ | refine wpList_buildA A24 rfl rfl ?_ | refine wpList_store_newA A24 rfl _ _ rfl _ rfl (hc zeros) A24.zsize (hc_one _) rfl rfl ?_)
  have N0 := hide (heap_alloc2_old w (.cells (hc zeros) 24) (.cells (hc zeros) 24))
  have R0 := hide ((row_of_hc zeros_len (heap_alloc2_new w (.cells (hc zeros) 24) (.cells (hc zeros) 24))).congr (g := fun j => .int .u8 (pcell s 0 (31 - j))) (fun i hi => by rw [pc_zero]; unfold hb zeros; rw [List.getD_eq_getElem?_getD, List.getElem?_replicate, if_pos hi]; rfl))
  have BB := hide (two_below w (.cells (hc zeros) 24) (.cells (hc zeros) 24))
  go_loopw [5, 6, 7] (fun c _ _ wr => ∃ k : Nat, k ≤ s.size ∧ k ≤ 64 ∧ c = .int .i64 k ∧ Hid ((s.data.toList.take k).all isD = true) ∧ Hid (wr.heap[w.heap.size]? = some (.cells (hc zeros) 24 (0, 0))) ∧ Hid (wr.rowIs (w.heap.size + 1) 24 32 (fun j => .int .u8 (pcell s k (31 - j)))) ∧ Hid (Below w.heap.size w wr)) (fun c _ _ _ => (64 - intOf c).toNat)
  case atStart => exact ⟨0, Nat.zero_le _, by omega, rfl, by simp [Hid], N0, R0, BB⟩
  case round =>
    clear N0 R0 BB
    obtain ⟨k, hk, hk64, rfl, ha, n0, r0, bb⟩ := hrel
    by_cases hlt : k < s.size
    · by_cases h64 : k = 64
      · subst h64
        have HG := hide (parseS_long s hlt ha.out)
        rw [show ((64 : Nat) : Int) = 64 from rfl]
        have hlt' : (64 : Int) < s.size := by omega
        go_wp2_with (first | refine wpList_buildA A24 rfl rfl ?_ | refine wpList_storeA A24 rfl _ _ rfl _ (hc zeros) A24.zsize (hc_one _) rfl rfl (hc zeros) A24.zsize 24 n0.out ?_)
        rw [HG.out]
        exact bodyPost_ret (v := .tuple #[.agg (hc zeros), .int .i64 64]) (res24_2 Tryd.results32 _ _ w.heap.size 24 zeros zeros_len rfl (setRow_heap _ _ _ _ _ _ n0.out) _ rfl) rfl ⟨rfl, below_setRow bb.out (Nat.le_refl _) _⟩
      · have hk' : (k : Int) < 64 := by omega
        have hls : (k : Int) < s.size := by omega
        have k0 : (0 : Int) ≤ k := by omega
        by_cases hd : isD s[k] = true
        · have hv : vd s[k].toNat ≠ 16 := by simpa [isD] using hd
          obtain ⟨p0, p1, p2, p3⟩ := pc_step s k hlt (dv_ok s k hlt ha.out hv)
          have HS := hide (all_snoc s k hlt ha.out hd)
          rw [dv_at s k hlt] at p0 p3
          have f0 := r0.out.frozen (31 - k / 2)
          have c0 := r0.out.cell (show 31 - k / 2 < 32 by omega)
          rw [show 31 - (31 - k / 2) = k / 2 by omega] at c0
          have q1 : (16 * pcell s k (k / 2) + (vd s[k].toNat : Int)) % 256 = pcell s (k + 1) (k / 2) := by rw [p0.symm]; omega
          have hvd : (48 ≤ s[k].toNat ∧ s[k].toNat ≤ 57 ∧ (vd s[k].toNat : Int) = (s[k].toNat : Int) - 48) ∨ (97 ≤ s[k].toNat ∧ s[k].toNat ≤ 102 ∧ (vd s[k].toNat : Int) = (s[k].toNat : Int) - 97 + 10) := by
            unfold vd at hv ⊢
            by_cases a : 48 ≤ s[k].toNat ∧ s[k].toNat ≤ 57
            · rw [if_pos a]; left; omega
            · rw [if_neg a] at hv ⊢
              by_cases b : 97 ≤ s[k].toNat ∧ s[k].toNat ≤ 102
              · rw [if_pos b]; right; omega
              · rw [if_neg b] at hv; exact absurd rfl hv
          have i0 : IntKind.i64.wrap (31 - (k : Int) / 2) = 31 - (k : Int) / 2 := wrapI _ (by omega) (by omega)
          have i1 : (0 : Int) ≤ 31 - (k : Int) / 2 := by omega
          have i2 : 31 - (k : Int) / 2 < 32 := by omega
          have i3 : (31 - (k : Int) / 2).toNat = 31 - k / 2 := by omega
          clear hv hd p0 p3
          generalize pcell s k (k / 2) = x at *
          generalize hy : pcell s (k + 1) (k / 2) = y at *
          have HY := hide hy
          clear hy
          rcases hvd with ⟨v0, v1, v2⟩ | ⟨v0, v1, v2⟩
          · rw [v2] at q1
            have u0 : (48 : Int) ≤ s[k].toNat := by omega
            have u1 : (s[k].toNat : Int) ≤ 57 := by omega
            clear v0 v1 v2
            go_wp2
            exact ⟨⟨k + 1, by omega, by omega, by go_num, HS, hide ((blk_setCell_other _ _ _ _ (by simp)).trans n0.out), hide ((r0.out.set _ _).congr (fun i hi => by rw [← pc_row s k i hi (by omega), HY.out]; congr 2; omega)), hide (bb.out.setCell (by simp) _)⟩, by simp [intOf]; omega⟩
          · rw [v2] at q1
            have u0 : (48 : Int) ≤ s[k].toNat := by omega
            have u1 : ¬ (s[k].toNat : Int) ≤ 57 := by omega
            have u2 : (97 : Int) ≤ s[k].toNat := by omega
            have u3 : (s[k].toNat : Int) ≤ 102 := by omega
            clear v0 v1 v2
            go_wp2
            exact ⟨⟨k + 1, by omega, by omega, by go_num, HS, hide ((blk_setCell_other _ _ _ _ (by simp)).trans n0.out), hide ((r0.out.set _ _).congr (fun i hi => by rw [← pc_row s k i hi (by omega), HY.out]; congr 2; omega)), hide (bb.out.setCell (by simp) _)⟩, by simp [intOf]; omega⟩
        · have hd2 : isD s[k] = false := by simpa using hd
          have hv : vd s[k].toNat = 16 := by simpa [isD] using hd2
          have HG := hide (parseS_bad s k hlt (by omega) ha.out hd2)
          have hno : ¬ (48 ≤ s[k].toNat ∧ s[k].toNat ≤ 57) ∧ ¬ (97 ≤ s[k].toNat ∧ s[k].toNat ≤ 102) := by
            unfold vd at hv
            by_cases a : 48 ≤ s[k].toNat ∧ s[k].toNat ≤ 57
            · rw [if_pos a] at hv; omega
            · rw [if_neg a] at hv
              by_cases b : 97 ≤ s[k].toNat ∧ s[k].toNat ≤ 102
              · rw [if_pos b] at hv; omega
              · exact ⟨a, b⟩
          clear hd hd2 hv
          by_cases a : s[k].toNat < 48
          · have u0 : ¬ (48 : Int) ≤ s[k].toNat := by omega
            have u2 : ¬ (97 : Int) ≤ s[k].toNat := by omega
            clear hno a
            go_wp2_with (first | refine wpList_buildA A24 rfl rfl ?_ | refine wpList_storeA A24 rfl _ _ rfl _ (hc zeros) A24.zsize (hc_one _) rfl rfl (hc zeros) A24.zsize 24 n0.out ?_)
            rw [HG.out]
            exact bodyPost_ret (v := .tuple #[.agg (hc zeros), .int .i64 (k : Int)]) (res24_2 Tryd.results32 _ _ w.heap.size 24 zeros zeros_len rfl (setRow_heap _ _ _ _ _ _ n0.out) _ rfl) rfl ⟨rfl, below_setRow bb.out (Nat.le_refl _) _⟩
          · have u0 : (48 : Int) ≤ s[k].toNat := by omega
            have u1 : ¬ (s[k].toNat : Int) ≤ 57 := by omega
            by_cases c : s[k].toNat < 97
            · have u2 : ¬ (97 : Int) ≤ s[k].toNat := by omega
              clear hno a c
              go_wp2_with (first | refine wpList_buildA A24 rfl rfl ?_ | refine wpList_storeA A24 rfl _ _ rfl _ (hc zeros) A24.zsize (hc_one _) rfl rfl (hc zeros) A24.zsize 24 n0.out ?_)
              rw [HG.out]
              exact bodyPost_ret (v := .tuple #[.agg (hc zeros), .int .i64 (k : Int)]) (res24_2 Tryd.results32 _ _ w.heap.size 24 zeros zeros_len rfl (setRow_heap _ _ _ _ _ _ n0.out) _ rfl) rfl ⟨rfl, below_setRow bb.out (Nat.le_refl _) _⟩
            · have u2 : (97 : Int) ≤ s[k].toNat := by omega
              have u3 : ¬ (s[k].toNat : Int) ≤ 102 := by omega
              clear hno a c
              go_wp2_with (first | refine wpList_buildA A24 rfl rfl ?_ | refine wpList_storeA A24 rfl _ _ rfl _ (hc zeros) A24.zsize (hc_one _) rfl rfl (hc zeros) A24.zsize 24 n0.out ?_)
              rw [HG.out]
              exact bodyPost_ret (v := .tuple #[.agg (hc zeros), .int .i64 (k : Int)]) (res24_2 Tryd.results32 _ _ w.heap.size 24 zeros zeros_len rfl (setRow_heap _ _ _ _ _ _ n0.out) _ rfl) rfl ⟨rfl, below_setRow bb.out (Nat.le_refl _) _⟩
    · have hke : k = s.size := by omega
      subst hke
      have hal : s.data.toList.all isD = true := by
        have := ha.out
        rwa [List.take_of_length_le (by simp)] at this
      clear ha
      by_cases hsh : s.size < 64
      · have HG := hide (parseS_short s hsh hal)
        have hsh' : (s.size : Int) < 64 := by omega
        clear hal
        go_wp2_with (first | refine wpList_buildA A24 rfl rfl ?_ | refine wpList_storeA A24 rfl _ _ rfl _ (hc zeros) A24.zsize (hc_one _) rfl rfl (hc zeros) A24.zsize 24 n0.out ?_)
        rw [HG.out]
        exact bodyPost_ret (v := .tuple #[.agg (hc zeros), .int .i64 (s.size : Int)]) (res24_2 Tryd.results32 _ _ w.heap.size 24 zeros zeros_len rfl (setRow_heap _ _ _ _ _ _ n0.out) _ rfl) rfl ⟨rfl, below_setRow bb.out (Nat.le_refl _) _⟩
      · have h64 : s.size = 64 := by omega
        have HG := hide (parseS_ok s h64 hal)
        have hul : (unhexL s.data.toList).reverse.length = 32 := by
          rw [List.length_reverse, unhexL_len]
          simp
          omega
        have r0' := r0.out
        rw [h64] at r0'
        have H2 := hide (hc_of_row hul r0' (pc_end s h64))
        have hs1 : (s.size : Int) = 64 := by omega
        clear r0' hal
        generalize (unhexL s.data.toList).reverse = L at *
        go_wp2_with (first | refine wpList_loadA A24 rfl _ rfl _ rfl (hc L) (by rw [hc_size, hul]) 24 H2.out ?_ | refine wpList_storeA A24 rfl _ _ rfl _ (hc L) (by rw [hc_size, hul]) (hc_one _) rfl rfl (hc zeros) A24.zsize 24 n0.out ?_)
        rw [HG.out]
        exact bodyPost_ret (v := .tuple #[.agg (hc L), .int .i64 (-1)]) (res24_2 Tryd.results32 _ _ w.heap.size 24 L hul rfl (setRow_heap _ _ _ _ _ _ n0.out) _ rfl) rfl ⟨rfl, below_setRow bb.out (Nat.le_refl _) _⟩
theorem sparse_bad (s : ByteArray) (hs : s.size ≤ 281474976710656) (h : min (good s.data.toList) 64 < 64 ∨ 64 < s.size) (w : World) : Calls Tryd.prog 31 #[.string s] w fun e w' =>
    e = .returned (.tuple #[.agg (hc zeros), .int .i64 (min (good s.data.toList) 64 : Nat), .int .i64 20]) ∧ Below w.heap.size w w' := by
  have HP := hide fun W => parse_bad s hs h W
  generalize min (good s.data.toList) 64 = n at *
  clear h
  have N0 := hide (heap_alloc_last w (.cells (hc zeros) 25))
  have B0 := hide ((Below.refl w.heap.size w).alloc (Nat.le_refl _) (.cells (hc zeros) 25))
  go_enter Tryd.func31, Tryd.ntmps31
  go_wp2_with (first | refine wpList_allocA A25 rfl rfl ?_ | (go_at_call 44; refine (HP.out _).mono ?_; rintro e w1 ⟨rfl, b1⟩; have N1 := hide ((Below.heap_alloc w1 (.cells (hc zeros) 25) _ (lt_heap ((b1.block _ (lt_heap N0.out)).trans N0.out))).trans ((b1.block _ (lt_heap N0.out)).trans N0.out)); have B1 := hide (((below_next B0.out b1)).alloc ((below_next B0.out b1)).size (.cells (hc zeros) 25))) | refine wpList_store_newA A25 rfl _ _ rfl _ rfl (hc zeros) A25.zsize (hc_one _) rfl rfl ?_ | refine wpList_buildA A25 rfl rfl ?_ | refine wpList_storeA A25 rfl _ _ rfl _ (hc zeros) A25.zsize (hc_one _) rfl rfl (hc zeros) A25.zsize 25 N1.out ?_)
  exact bodyPost_ret (v := .tuple #[.agg (hc zeros), .int .i64 n, .int .i64 20]) (res33_3 Tryd.results31 _ _ w.heap.size 25 zeros zeros_len rfl (setRow_heap _ _ _ _ _ _ N1.out) _ _ rfl rfl) rfl ⟨rfl, below_setRow B1.out (Nat.le_refl _) _⟩
theorem sparse_good (s : ByteArray) (h : s.size = 64) (ha : s.data.toList.all isD = true) (w : World) : Calls Tryd.prog 31 #[.string s] w fun e w' =>
    e = .returned (.tuple #[.agg (hc (unhexL s.data.toList).reverse), .int .i64 0, .int .i64 0]) ∧ Below w.heap.size w w' := by
  have HP := hide fun W => parse_good s h ha W
  have hul : (unhexL s.data.toList).reverse.length = 32 := by
    rw [List.length_reverse, unhexL_len]
    simp
    omega
  generalize (unhexL s.data.toList).reverse = L at *
  clear ha h
  have N0 := hide (heap_alloc_last w (.cells (hc zeros) 25))
  have B0 := hide ((Below.refl w.heap.size w).alloc (Nat.le_refl _) (.cells (hc zeros) 25))
  go_enter Tryd.func31, Tryd.ntmps31
  go_wp2_with (first | refine wpList_allocA A25 rfl rfl ?_ | (go_at_call 44; refine (HP.out _).mono ?_; rintro e w1 ⟨rfl, b1⟩; have N1 := hide ((Below.heap_alloc w1 (.cells (hc L) 25) _ (lt_heap ((b1.block _ (lt_heap N0.out)).trans N0.out))).trans ((b1.block _ (lt_heap N0.out)).trans N0.out)); have B1 := hide (((below_next B0.out b1)).alloc ((below_next B0.out b1)).size (.cells (hc L) 25))) | refine wpList_store_newA A25 rfl _ _ rfl _ rfl (hc L) (by rw [hc_size, hul]) (hc_one _) rfl rfl ?_ | refine wpList_loadA A25 rfl _ rfl _ rfl (hc L) (by rw [hc_size, hul]) 25 (heap_alloc_last w1 _) ?_ | refine wpList_storeA A25 rfl _ _ rfl _ (hc L) (by rw [hc_size, hul]) (hc_one _) rfl rfl (hc zeros) A25.zsize 25 N1.out ?_)
  exact bodyPost_ret (v := .tuple #[.agg (hc L), .int .i64 0, .int .i64 0]) (res33_3 Tryd.results31 _ _ w.heap.size 25 L hul rfl (setRow_heap _ _ _ _ _ _ N1.out) _ _ rfl rfl) rfl ⟨rfl, below_setRow B1.out (Nat.le_refl _) _⟩
end
end Go.Proofs.YtempdhoccilhdaaDoor
