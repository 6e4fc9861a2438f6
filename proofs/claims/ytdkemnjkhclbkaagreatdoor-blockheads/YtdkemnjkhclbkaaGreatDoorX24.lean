/- The contracts of the document's raw, Limit and Expand. Rows of any cells in a world, and classes of worlds that have them. The contracts of the document's Limit and Expand, Meets. -/
import Derived.Test.YtdkemnjkhclbkaaGreatDoorX23
import Derived.Test.YtdkemnjkhclbkaaGreatDoorX21
namespace Go.Proofs.YtdkemnjkhclbkaaGreatDoor
open Go.RowKit
open Go.Deep
theorem pow8 (i : Nat) : 2 ^ (8 * i) = 256 ^ i := by rw [Nat.pow_mul]
/-- What raw has laid down behind i bytes. -/
def rawf (s u i j : Nat) : Nat := if s ≤ j + 3 ∧ j + 3 < s + i then dg 256 u (j + 3 - s) else 0
theorem rawf_zero (s u j : Nat) : dg 256 0 j = rawf s u 0 j := by rw [dg_zero, rawf, if_neg (by omega)]
theorem rawf_step (s u i k j : Nat) (h : k + 3 = s + i) : (if j = k then dg 256 u i else rawf s u i j) = rawf s u (i + 1) j := by
  unfold rawf
  by_cases e : j = k
  · rw [if_pos e, if_pos (by omega), show j + 3 - s = i by omega]
  · rw [if_neg e]
    by_cases e2 : s ≤ j + 3 ∧ j + 3 < s + i
    · rw [if_pos e2, if_pos (by omega)]
    · rw [if_neg e2, if_neg (by omega)]
theorem rawf_skip (s u i j : Nat) (hj : j < 40) (h : s + i < 3 ∨ 43 ≤ s + i) : rawf s u i j = rawf s u (i + 1) j := by
  unfold rawf
  by_cases e2 : s ≤ j + 3 ∧ j + 3 < s + i
  · rw [if_pos e2, if_pos (by omega)]
  · rw [if_neg e2, if_neg (by omega)]
theorem tgt_split (b : Nat) : tgt b = if b / 16777216 < 3 then b % 8388608 / 256 ^ (3 - b / 16777216) else b % 8388608 * 256 ^ (b / 16777216 - 3) := by
  unfold tgt
  rw [pow8, pow8]
theorem dg_high (u k : Nat) (hu : u < 8388608) (h : 3 ≤ k) : dg 256 u k = 0 := by
  have : 256 ^ 3 ≤ 256 ^ k := Nat.pow_le_pow_right (by decide) h
  rw [dg, Nat.div_eq_of_lt (by omega), Nat.zero_mod]
theorem rawf_end (b j : Nat) : rawf (b / 16777216) (b % 8388608) 3 j = dg 256 (tgt b) j := by
  have hu : b % 8388608 < 8388608 := by omega
  rw [tgt_split]
  generalize b % 8388608 = u at *
  generalize b / 16777216 = s at *
  unfold rawf
  split
  · rename_i h3
    split
    · rw [← dg_up]
      congr 1
      omega
    · rename_i h
      have e : 256 ^ j = 256 ^ (s - 3) * 256 ^ (j + 3 - s) := by rw [← Nat.pow_add]; congr 1; omega
      unfold dg
      rw [e, ← Nat.div_div_eq_div_mul, Nat.mul_div_cancel _ (Nat.pow_pos (by decide))]
  · rename_i h3
    split
    · rename_i h
      rw [← dg_up, dg_high u _ hu (by omega)]
    · rename_i h
      by_cases hj : j + 3 < s
      · have e : 256 ^ (s - 3) = 256 ^ j * (256 * 256 ^ (s - 3 - j - 1)) := by rw [← Nat.pow_succ', ← Nat.pow_add]; congr 1; omega
        rw [dg, e, Nat.mul_left_comm, Nat.mul_div_cancel_left _ (Nat.pow_pos (by decide)), Nat.mul_left_comm, Nat.mul_mod_right]
      · have e : 256 ^ j = 256 ^ (s - 3) * 256 ^ (j + 3 - s) := by rw [← Nat.pow_add]; congr 1; omega
        rw [dg, e, ← Nat.div_div_eq_div_mul, Nat.mul_div_cancel _ (Nat.pow_pos (by decide))]
        exact (dg_high u _ hu (by omega)).symm
theorem tgt_over (b i : Nat) (h3 : i < 3) (h : 43 ≤ b / 16777216 + i) (hd : dg 256 (b % 8388608) i ≠ 0) : ¬ tgt b < MB := by
  rw [tgt_split, if_neg (by omega)]
  unfold MB
  have h1 : 256 ^ i ≤ b % 8388608 := by
    rcases Nat.lt_or_ge (b % 8388608) (256 ^ i) with h' | h'
    · exact absurd (by rw [dg, Nat.div_eq_of_lt h', Nat.zero_mod]) hd
    · exact h'
  have h2 : 256 ^ 40 ≤ 256 ^ (i + (b / 16777216 - 3)) := Nat.pow_le_pow_right (by decide) (by omega)
  have h4 := Nat.mul_le_mul_right (256 ^ (b / 16777216 - 3)) h1
  rw [← Nat.pow_add] at h4
  omega
theorem tgt_fits (b : Nat) (hn : ∀ k, k < 3 → 43 ≤ b / 16777216 + k → dg 256 (b % 8388608) k = 0) : tgt b < MB := by
  have hu : b % 8388608 < 8388608 := by omega
  rw [tgt_split]
  generalize b % 8388608 = u at *
  generalize b / 16777216 = s at *
  split
  · have h1 := Nat.div_le_self u (256 ^ (3 - s))
    have h2 : 8388608 < MB := by decide +kernel
    omega
  · rename_i h3
    have h4 : u < 256 ^ (43 - s) := by
      have h40 := fun h => hn 0 (by omega) h
      have h41 := fun h => hn 1 (by omega) h
      have h42 := fun h => hn 2 (by omega) h
      unfold dg at h40 h41 h42
      rw [Nat.pow_zero] at h40
      rw [Nat.pow_one] at h41
      rw [show 256 ^ 2 = 65536 from rfl] at h42
      rcases (show 43 - s = 0 ∨ 43 - s = 1 ∨ 43 - s = 2 ∨ 3 ≤ 43 - s by omega) with h | h | h | h
      · rw [h, Nat.pow_zero]
        have := h40 (by omega)
        have := h41 (by omega)
        have := h42 (by omega)
        omega
      · rw [h, Nat.pow_one]
        have := h41 (by omega)
        have := h42 (by omega)
        omega
      · rw [h, show 256 ^ 2 = 65536 from rfl]
        have := h42 (by omega)
        omega
      · have : 256 ^ 3 ≤ 256 ^ (43 - s) := Nat.pow_le_pow_right (by decide) h
        omega
    rcases Nat.lt_or_ge s 44 with hs | hs
    · have h5 := Nat.mul_lt_mul_of_pos_right h4 (Nat.pow_pos (n := s - 3) (show 0 < 256 by decide))
      rw [← Nat.pow_add, show 43 - s + (s - 3) = 40 by omega] at h5
      exact h5
    · rw [show 43 - s = 0 by omega, Nat.pow_zero] at h4
      rw [show u = 0 by omega, Nat.zero_mul]
      exact MB_pos
/-- An answer's place, and a row. -/
structure Rw (w W : World) (f : Nat → Nat) : Prop where
  r : W.heap[w.heap.size]? = some (.cells (bn 0) 150 (0, 0))
  o : Ni W (w.heap.size + 1) 150 40 f
  bel : Below w.heap.size w W
theorem Rw.start (w : World) : Rw w ((w.alloc (.cells (bn 0) 150)).alloc (.cells (bn 0) 150)) (dg 256 0) :=
  ⟨(blk2x w _ _).1, Ni.of_heap (blk2x w _ _).2, below2x w _ _⟩
theorem Rw.set {w W : World} {f : Nat → Nat} (j : Rw w W f) (i x : Nat) : Rw w (W.setCell ⟨w.heap.size + 1, i, none⟩ (.int .i64 ((x : Nat) : Int))) (fun k => if k = i then x else f k) :=
  ⟨(Below.heap_setCell _ _ _ _ (by simp <;> omega)).trans j.r, j.o.set i x, j.bel.setCell (by simp <;> omega) _⟩
theorem Rw.congr {w W : World} {f f' : Nat → Nat} (j : Rw w W f) (e : ∀ i, i < 40 → f i = f' i) : Rw w W f' := ⟨j.r, j.o.congr e, j.bel⟩
section
set_option maxRecDepth 10000
set_option maxHeartbeats 2000000
theorem raw_core (b : Nat) (hb : b < 4294967296) (w : World) : Calls Tryz.prog 116 #[.int .u32 (b : Int)] w fun e w' => (e = .returned (.tuple #[.agg (bn (tgt b)), .bool true]) ∧ tgt b < MB ∨ e = .returned (.tuple #[.agg (bn 0), .bool false]) ∧ ¬ tgt b < MB) ∧ Below w.heap.size w w' := by
  have hl := and_low b hb
  have hs : (b : Int) / 16777216 = ((b / 16777216 : Nat) : Int) := by omega
  have hs8 : b / 16777216 < 256 := by omega
  have hu8 : b % 8388608 < 8388608 := by omega
  have J0 := hide ((Rw.start w).congr (fun j _ => rawf_zero (b / 16777216) (b % 8388608) j))
  have w1 : IntKind.i64.wrap ((b / 16777216 : Nat) : Int) = ((b / 16777216 : Nat) : Int) := wrapI _ (by omega) (by omega)
  have w2 : IntKind.i64.wrap (((b / 16777216 : Nat) : Int) - 3) = ((b / 16777216 : Nat) : Int) - 3 := wrapI _ (by omega) (by omega)
  have HE : Hid (∀ j, rawf (b / 16777216) (b % 8388608) 3 j = dg 256 (tgt b) j) := fun j => rawf_end b j
  have HO : Hid (∀ i, i < 3 → 43 ≤ b / 16777216 + i → dg 256 (b % 8388608) i ≠ 0 → ¬ tgt b < MB) := fun i h3 h hd => tgt_over b i h3 h hd
  have HFt : Hid ((∀ k, k < 3 → 43 ≤ b / 16777216 + k → dg 256 (b % 8388608) k = 0) → tgt b < MB) := tgt_fits b
  generalize tgt b = T at *
  generalize b % 8388608 = u at *
  generalize b / 16777216 = s at *
  have SU := hide (And.intro hs8 hu8)
  clear hs8 hu8 hb
  go_enter Tryz.func116, Tryz.ntmps116
  go_wp2_with (first | refine wpList_allocA AN rfl rfl ?_ | refine wpList_buildA AN rfl rfl ?_ | refine wpList_store_newA AN rfl _ _ rfl _ rfl (bn 0) (bn_size _) (bn_one _) rfl rfl ?_)
  generalize (w.alloc (.cells (bn 0) 150)).alloc (.cells (bn 0) 150) = W0 at *
  go_loopw [7, 8, 9] (fun d _ _ wr => ∃ i : Nat, i ≤ 3 ∧ d = .int .i64 i ∧ Hid (Rw w wr (rawf s u i)) ∧ Hid (∀ k, k < i → 43 ≤ s + k → dg 256 u k = 0)) (fun d _ _ _ => (3 - intOf d).toNat)
  case atStart => exact ⟨0, by omega, rfl, J0, fun k hk => by omega⟩
  case round =>
    clear J0
    obtain ⟨i, hi, rfl, J, N⟩ := hrel
    by_cases hlt : i < 3
    · obtain ⟨hs8, hu8⟩ := SU.out
      have hi4 : (i : Int) < 3 := by omega
      have i0 : (0 : Int) ≤ i := by omega
      have c0 : IntKind.i64.wrap ((s : Int) - 3 + i) = (s : Int) - 3 + i := wrapI _ (by omega) (by omega)
      have c1 : IntKind.i64.wrap (8 * (i : Int)) = ((8 * i : Nat) : Int) := by rw [wrapI _ (by omega) (by omega)]; omega
      have c2 : IntKind.u64.wrap ((8 * i : Nat) : Int) = ((8 * i : Nat) : Int) := wrapu _ (by omega) (by omega)
      have c3 : ((8 * i : Nat) : Int) ≤ 64 := by omega
      have c4 : (0 : Int) ≤ ((8 * i : Nat) : Int) := by omega
      have hmn : min (8 * i) 32 = 8 * i := by omega
      have x0 : (u : Int) / 2 ^ (8 * i) = ((u / 2 ^ (8 * i) : Nat) : Int) := by simp
      have hdg : u / 2 ^ (8 * i) % 256 = dg 256 u i := by rw [pow8]; rfl
      have x1 : ((u / 2 ^ (8 * i) : Nat) : Int) % 256 = ((dg 256 u i : Nat) : Int) := by rw [← hdg]; omega
      have x2 : Int.tmod ((u / 2 ^ (8 * i) : Nat) : Int) 256 = ((dg 256 u i : Nat) : Int) := by rw [Int.tmod_eq_emod_of_nonneg (Int.natCast_nonneg _)]; exact x1
      have hdl := dg_lt (B := 256) (by decide) u i
      have x3 : IntKind.i64.wrap ((dg 256 u i : Nat) : Int) = ((dg 256 u i : Nat) : Int) := wrapI _ (by omega) (by omega)
      have hiw : IntKind.i64.wrap ((i : Int) + 1) = i + 1 := wrapI _ (by omega) (by omega)
      have LL := hide hlt
      have NX : Hid (dg 256 u i = 0 ∨ s + i < 43 → ∀ k, k < i + 1 → 43 ≤ s + k → dg 256 u k = 0) := fun h k hk h43 => by
        rcases Nat.lt_or_ge k i with h' | h'
        · exact N.out k h' h43
        · have e : k = i := by omega
          subst e
          rcases h with h | h
          · exact h
          · omega
      have HOi := hide (HO.out i hlt)
      rcases (show s + i < 3 ∨ (3 ≤ s + i ∧ s + i < 43) ∨ 43 ≤ s + i by omega) with hc | hc | hc
      · have t1 : ¬ (0 : Int) ≤ (s : Int) - 3 + i := by omega
        have t2 : ¬ (40 : Int) ≤ (s : Int) - 3 + i := by omega
        have HR : Hid (∀ j, j < 40 → rawf s u i j = rawf s u (i + 1) j) := fun j hj => rawf_skip s u i j hj (.inl hc)
        have NN := hide (NX.out (.inr (by omega)))
        clear hs8 hu8 hlt hi hdl hdg hc
        generalize u / 2 ^ (8 * i) = z at *
        generalize 8 * i = r at *
        generalize dg 256 u i = dd at *
        go_wp2
        have L4 := LL.out
        exact ⟨⟨i + 1, by omega, by go_num, hide (J.out.congr HR.out), NN⟩, by simp [intOf]; omega⟩
      · obtain ⟨k, hk⟩ : ∃ k, k + 3 = s + i := ⟨s + i - 3, by omega⟩
        have ek : (s : Int) - 3 + i = (k : Int) := by omega
        replace c0 : IntKind.i64.wrap ((s : Int) - 3 + i) = (k : Int) := c0.trans ek
        have t1 : (0 : Int) ≤ (k : Int) := by omega
        have t2 : (k : Int) < 40 := by omega
        have t3 : ¬ (40 : Int) ≤ (k : Int) := by omega
        have HR : Hid (∀ j, (if j = k then dg 256 u i else rawf s u i j) = rawf s u (i + 1) j) := fun j => rawf_step s u i k j hk
        have NN := hide (NX.out (.inr hc.2))
        have co := J.out.o.cell (show k < 40 by omega)
        have fo := J.out.o.fz k
        clear hs8 hu8 hlt hi hdl hdg hc hk ek
        generalize u / 2 ^ (8 * i) = z at *
        generalize 8 * i = r at *
        generalize dg 256 u i = dd at *
        go_wp2
        have L4 := LL.out
        exact ⟨⟨i + 1, by omega, by go_num, hide ((J.out.set k dd).congr (fun j _ => HR.out j)), NN⟩, by simp [intOf]; omega⟩
      · have t1 : (0 : Int) ≤ (s : Int) - 3 + i := by omega
        have t2 : ¬ (s : Int) - 3 + i < 40 := by omega
        have t3 : (40 : Int) ≤ (s : Int) - 3 + i := by omega
        have HR : Hid (∀ j, j < 40 → rawf s u i j = rawf s u (i + 1) j) := fun j hj => rawf_skip s u i j hj (.inr hc)
        by_cases hz : dg 256 u i = 0
        · have NN := hide (NX.out (.inl hz))
          have hz2 : (((dg 256 u i : Nat) : Int) != 0) = false := by simp [hz]
          clear hs8 hu8 hlt hi hdl hdg hc hz
          generalize u / 2 ^ (8 * i) = z at *
          generalize 8 * i = r at *
          generalize dg 256 u i = dd at *
          go_wp2
          have L4 := LL.out
          exact ⟨⟨i + 1, by omega, by go_num, hide (J.out.congr HR.out), NN⟩, by simp [intOf]; omega⟩
        · have NO := hide (HOi.out hc hz)
          have hz2 : (((dg 256 u i : Nat) : Int) != 0) = true := by simp [hz]
          have r0 := hide J.out.r
          clear hs8 hu8 hlt hi hdl hdg hc hz
          generalize u / 2 ^ (8 * i) = z at *
          generalize 8 * i = r at *
          generalize dg 256 u i = dd at *
          go_wp2_with (first | refine wpList_buildA AN rfl rfl ?_ | refine wpList_storeA AN rfl _ _ rfl _ (bn 0) (bn_size _) (bn_one _) rfl rfl (bn 0) (bn_size 0) 150 r0.out ?_)
          exact bodyPost_ret (v := .tuple #[.agg (bn 0), .bool false]) (resA2 AN Tryz.results116 _ _ w.heap.size 150 (bn 0) (bn_size _) rfl (setRow_heap _ _ _ _ _ _ r0.out) _ (by rfl)) rfl ⟨.inr ⟨rfl, Nat.le_of_not_lt NO.out⟩, below_setRow J.out.bel (Nat.le_refl _) _⟩
    · have hke : i = 3 := by omega
      subst hke
      have H2 := hide (J.out.o.congr (f' := dg 256 T) (fun j _ => HE.out j)).heap
      have FF := hide (HFt.out N.out)
      have r0 := hide J.out.r
      go_wp2_with (first | refine wpList_loadA AN rfl _ rfl _ rfl (bn T) (bn_size _) 150 H2.out ?_ | refine wpList_storeA AN rfl _ _ rfl _ (bn T) (bn_size _) (bn_one _) rfl rfl (bn 0) (bn_size 0) 150 r0.out ?_)
      exact bodyPost_ret (v := .tuple #[.agg (bn T), .bool true]) (resA2 AN Tryz.results116 _ _ w.heap.size 150 (bn T) (bn_size _) rfl (setRow_heap _ _ _ _ _ _ r0.out) _ (by rfl)) rfl ⟨.inl ⟨rfl, FF.out⟩, below_setRow J.out.bel (Nat.le_refl _) _⟩
end
theorem raw_any (b : Nat) (hb : b < 4294967296) (w : World) : Calls Tryz.prog 116 #[.int .u32 (b : Int)] w fun e w' => e = .returned (.tuple #[.agg (bn (if tgt b < MB then tgt b else 0)), .bool (decide (tgt b < MB))]) ∧ Below w.heap.size w w' := by
  refine (raw_core b hb w).mono ?_
  rintro e w' ⟨h, bel⟩
  refine ⟨?_, bel⟩
  rcases h with ⟨rfl, h⟩ | ⟨rfl, h⟩ <;> simp [h]
end Go.Proofs.YtdkemnjkhclbkaaGreatDoor
namespace Go.Proofs.YtdkemnjkhclbkaaGreatDoor
open Go.RowKit
open Go.Deep
/-- Rows of cells: place, type, cells. -/
structure Rc (w W : World) (l : List (Nat × TypeId × Array Value)) : Prop where
  row : ∀ p ∈ l, W.heap[p.1]? = some (.cells p.2.2 p.2.1 (0, 0))
  bel : Below w.heap.size w W
section
variable {w W W' : World} {l : List (Nat × TypeId × Array Value)} {g : Nat} {t : TypeId} {c : Array Value}
theorem Rc.at (j : Rc w W l) (h : (g, t, c) ∈ l) : W.heap[g]? = some (.cells c t (0, 0)) := j.row _ h
theorem Rc.next (j : Rc w W l) (h : Below W.heap.size W W') : Rc w W' l := ⟨fun p hp => (h.block _ (lt_heap (j.row p hp))).trans (j.row p hp), below_next j.bel h⟩
theorem Rc.drew (j : Rc w W l) : Rc w W.drew l := ⟨j.row, j.bel.drew⟩
theorem Rc.cons (j : Rc w W l) (h : W.heap[g]? = some (.cells c t (0, 0))) : Rc w W ((g, t, c) :: l) := by
  refine ⟨fun p hp => ?_, j.bel⟩
  rcases List.mem_cons.1 hp with rfl | h2
  · exact h
  · exact j.row p h2
theorem Rc.new (j : Rc w W l) (t : TypeId) (c : Array Value) : Rc w (W.alloc (.cells c t)) ((W.heap.size, t, c) :: l) := (j.next (below_allocZ W _)).cons (heap_alloc_last _ _)
theorem Rc.nil (w : World) : Rc w w [] := ⟨fun p hp => absurd hp (by simp), Below.refl _ _⟩
theorem Rc.start1 (w : World) (t : TypeId) (c : Array Value) : Rc w (w.alloc (.cells c t)) [(w.heap.size, t, c)] := (Rc.nil w).new t c
theorem Rc.start2 (w : World) (t t' : TypeId) (c d : Array Value) : Rc w ((w.alloc (.cells c t)).alloc (.cells d t')) [(w.heap.size + 1, t', d), (w.heap.size, t, c)] := by
  have := (Rc.start1 w t c).new t' d
  rw [show (w.alloc (.cells c t)).heap.size = w.heap.size + 1 by simp] at this
  exact this
/-- Worlds in which these rows lie, as a class. -/
theorem Rc.cls (j : Rc w W l) : ∃ (I : Type) (_ : Nonempty I) (F : I → World) (i0 : I), W.drew = F i0 ∧ Hid (∀ i, Rc w (F i) l) ∧ Hid (∀ i W', Below (F i).heap.size (F i) W' → ∃ j, W' = F j) :=
  ⟨{W : World // Rc w W l}, ⟨⟨_, j⟩⟩, Subtype.val, ⟨W.drew, j.drew⟩, rfl, fun i => i.2, fun i W' b => ⟨⟨W', i.2.next b⟩, rfl⟩⟩
theorem Rc.of {I : Type} {F : I → World} (hJ : Hid (∀ i, Rc w (F i) l)) (h : (g, t, c) ∈ l) (W : World) (hC : ∃ i, W = F i) : W.heap[g]? = some (.cells c t (0, 0)) := by
  obtain ⟨i, rfl⟩ := hC
  exact (hJ.out i).at h
theorem Rc.put {l' : List (Nat × TypeId × Array Value)} (j : Rc w W l) (g : Nat) (t : TypeId) (c : Array Value) (h : ∃ y, (g, t, y) ∈ l) (hg : w.heap.size ≤ g) (hl : ∀ p ∈ l', p = (g, t, c) ∨ (p ∈ l ∧ p.1 ≠ g)) : Rc w (W.setRow g c) l' := by
  obtain ⟨y, hy⟩ := h
  refine ⟨fun p hp => ?_, below_setRow j.bel hg _⟩
  rcases hl p hp with rfl | ⟨h1, h2⟩
  · exact setRow_heap _ _ _ _ _ _ (j.at hy)
  · exact (setRow_other _ _ _ _ h2).trans (j.row p h1)
end
end Go.Proofs.YtdkemnjkhclbkaaGreatDoor
namespace Go.Proofs.YtdkemnjkhclbkaaGreatDoor
open Go.RowKit
open Go.Deep
theorem Lm_MB : Lm < MB := by decide +kernel
section
set_option maxRecDepth 10000
set_option maxHeartbeats 2000000
theorem limitN_any (w : World) : Calls Tryz.prog 118 #[] w fun e w' => e = .returned (.agg (bn Lm)) ∧ Below w.heap.size w w' := by
  have HS : Hid (∀ W, Calls Tryz.prog 116 #[.int .u32 545259519] W fun e w' => e = .returned (.tuple #[.agg (bn Lm), .bool true]) ∧ Below W.heap.size W w') := fun W => by
    have := raw_any 545259519 (by decide) W
    rw [Lm_eq, if_pos Lm_MB, show decide (Lm < MB) = true by simp [Lm_MB]] at this
    exact this
  have J0 := hide (Rc.start1 w 150 (bn 0))
  generalize Lm = L at *
  go_enter Tryz.func118, Tryz.ntmps118
  go_upto_region 1 with (refine wpList_allocA AN rfl rfl ?_)
  generalize w.alloc (.cells (bn 0) 150) = W0 at *
  go_upto_region 2 with (first | (go_at_call 116; refine (HS.out _).mono ?_; rintro e w1 ⟨rfl, b1⟩; have J1 := hide ((J0.out.next b1).new 150 (bn L)); clear b1) | refine wpList_allocA AN rfl rfl ?_ | refine wpList_store_newA AN rfl _ _ rfl _ rfl (bn L) (bn_size _) (bn_one _) rfl rfl ?_)
  generalize w1.alloc (.cells (bn L) 150) = W1 at *
  generalize w1.heap.size = g1 at *
  have r1 := hide (J1.out.at (g := g1) (t := 150) (c := bn L) (by simp))
  have r0 := hide (J1.out.at (g := w.heap.size) (t := 150) (c := bn 0) (by simp))
  go_wp2_with (first | refine wpList_loadA AN rfl _ rfl g1 rfl (bn L) (bn_size _) 150 r1.out ?_ | refine wpList_storeA AN rfl _ _ rfl _ (bn L) (bn_size _) (bn_one _) rfl rfl (bn 0) (bn_size 0) 150 r0.out ?_)
  exact bodyPost_ret (v := .agg (bn L)) (resA AN Tryz.results118 _ _ w.heap.size 150 (bn L) (bn_size _) rfl (setRow_heap _ _ _ _ _ _ r0.out)) rfl ⟨rfl, below_setRow J1.out.bel (Nat.le_refl _) _⟩
/-- Expand, by what its four tests say. -/
theorem expandN_core (b : Nat) (hb : b < 4294967296) (A : Nat) (hA : A < MB) (ok sg zb gt : Bool) (hAe : (if tgt b < MB then tgt b else 0) = A) (hok : decide (tgt b < MB) = ok) (hsg : decide (b / 8388608 % 2 = 1) = sg) (hzb : decide (A = 0) = zb) (hgt : decide (Lm < A) = gt) (w : World) :
    Calls Tryz.prog 77 #[.int .u32 (b : Int)] w fun e w' => e = .returned (if !ok || sg || zb || gt then .tuple #[.agg (bn 0), .bool false] else .tuple #[.agg (bn A), .bool true]) ∧ Below w.heap.size w w' := by
  have HS := hide fun W => raw_any b hb W
  rw [hok, hAe] at HS
  have hand := and_bit b hb
  rw [hsg] at hand
  have HZ := hide fun W => zeroN_any _ hA W
  rw [hzb] at HZ
  have HL := hide fun W => limitN_any W
  have HC := hide fun W => less_any _ _ Lm_MB hA W
  rw [hgt] at HC
  have J0 := hide (Rc.start1 w 150 (bn 0))
  generalize Lm = L at *
  clear hok hsg hzb hA hb hAe hgt
  go_enter Tryz.func77, Tryz.ntmps77
  go_upto_region 1 with (refine wpList_allocA AN rfl rfl ?_)
  generalize w.alloc (.cells (bn 0) 150) = W0 at *
  go_upto_region 2 with (first | (go_at_call 116; refine (HS.out _).mono ?_; rintro e w1 ⟨rfl, be⟩; have J1 := hide ((J0.out.next be).new 150 (bn A)); clear be) | refine wpList_allocA AN rfl rfl ?_ | refine wpList_store_newA AN rfl _ _ rfl _ rfl (bn A) (bn_size _) (bn_one _) rfl rfl ?_)
  generalize w1.alloc (.cells (bn A) 150) = W1 at *
  generalize w1.heap.size = g4 at *
  clear J0 HS
  have hc : ok = false ∨ (ok = true ∧ sg = true) ∨ (ok = true ∧ sg = false ∧ zb = true) ∨ (ok = true ∧ sg = false ∧ zb = false ∧ gt = true) ∨ (ok = true ∧ sg = false ∧ zb = false ∧ gt = false) := by
    cases ok <;> cases sg <;> cases zb <;> cases gt <;> simp
  obtain ⟨I, hne, F, i0, h0, hJ, hcl⟩ := J1.out.cls
  rcases hc with rfl | ⟨rfl, rfl⟩ | ⟨rfl, rfl, rfl⟩ | ⟨rfl, rfl, rfl, rfl⟩ | ⟨rfl, rfl, rfl, rfl⟩
  all_goals
    refine wp_region_class_lit (by kernel_rfl) (by kernel_rfl) i0 h0 ?_
    repeat (first | ((go_big_quiet_want; refine quiet_loadA AN _ (by rfl) g4 (by rfl) (bn A) (bn_size _) 150 (Rc.of hJ (by simp)) ?_); go_big_quiet_on; simp only [Act.put, List.setIfInBounds_toArray, List.set_cons_succ, List.set_cons_zero]) | go_big_quiet_step (first | (go_at_call 117; exact class_of hcl.out (HZ.out _)) | (go_at_call 118; exact class_of hcl.out (HL.out _)) | (go_at_call 78; exact class_of hcl.out (HC.out _))))
    refine wpQuiet_nil ?_
    rintro _ ⟨iq, rfl⟩
    have J2 := hide (hJ.out iq)
    clear hJ hcl h0 HZ HL HC
    generalize F iq = W2 at *
    have r2 := hide (J2.out.at (g := w.heap.size) (t := 150) (c := bn 0) (by simp))
    have r4 := hide (J2.out.at (g := g4) (t := 150) (c := bn A) (by simp))
  iterate 4
    · go_wp2_with (first | refine wpList_buildA AN rfl rfl ?_ | refine wpList_storeA AN rfl _ _ rfl _ (bn 0) (bn_size _) (bn_one _) rfl rfl (bn 0) (bn_size 0) 150 r2.out ?_)
      exact bodyPost_ret (v := .tuple #[.agg (bn 0), .bool false]) (resA2 AN Tryz.results77 _ _ w.heap.size 150 (bn 0) (bn_size _) rfl (setRow_heap _ _ _ _ _ _ r2.out) _ (by rfl)) rfl ⟨rfl, below_setRow J2.out.bel (Nat.le_refl _) _⟩
  · go_wp2_with (first | refine wpList_loadA AN rfl _ rfl g4 rfl (bn A) (bn_size _) 150 r4.out ?_ | refine wpList_storeA AN rfl _ _ rfl _ (bn A) (bn_size _) (bn_one _) rfl rfl (bn 0) (bn_size 0) 150 r2.out ?_)
    exact bodyPost_ret (v := .tuple #[.agg (bn A), .bool true]) (resA2 AN Tryz.results77 _ _ w.heap.size 150 (bn A) (bn_size _) rfl (setRow_heap _ _ _ _ _ _ r2.out) _ (by rfl)) rfl ⟨rfl, below_setRow J2.out.bel (Nat.le_refl _) _⟩
end
/-- What Expand tells: the target where it may be, else 0. -/
def xt (b : Nat) : Nat := if okB b then tgt b else 0
theorem okB_iff (b : Nat) : okB b = true ↔ b / 8388608 % 2 = 0 ∧ 0 < tgt b ∧ tgt b ≤ Lm := by
  unfold okB
  simp only [Bool.and_eq_true, decide_eq_true_eq]
  omega
theorem xt_le (b : Nat) : xt b ≤ Lm := by
  unfold xt
  split
  · rename_i h
    exact ((okB_iff b).1 h).2.2
  · exact Nat.zero_le _
theorem expandN_any (b : Nat) (hb : b < 4294967296) (w : World) : Calls Tryz.prog 77 #[.int .u32 (b : Int)] w fun e w' => e = .returned (.tuple #[.agg (bn (xt b)), .bool (okB b)]) ∧ Below w.heap.size w w' := by
  have hL := Lm_MB
  have hA : (if tgt b < MB then tgt b else 0) < MB := by
    split
    · assumption
    · exact MB_pos
  have := expandN_core b hb _ hA _ _ _ _ rfl rfl rfl rfl rfl w
  unfold xt
  cases h : okB b
  · rw [if_pos] at this
    · exact this
    · have h2 : ¬ (b / 8388608 % 2 = 0 ∧ 0 < tgt b ∧ tgt b ≤ Lm) := fun h' => by rw [(okB_iff b).2 h'] at h; cases h
      simp only [Bool.or_eq_true, Bool.not_eq_true', decide_eq_false_iff_not, decide_eq_true_eq]
      by_cases h1 : tgt b < MB
      · rw [if_pos h1]
        omega
      · exact .inl (.inl (.inl h1))
  · have h2 := (okB_iff b).1 h
    rw [if_neg, if_pos (show tgt b < MB by omega)] at this
    · exact this
    · simp only [Bool.or_eq_true, Bool.not_eq_true', decide_eq_false_iff_not, decide_eq_true_eq]
      rw [if_pos (show tgt b < MB by omega)]
      omega
theorem expand_any (b : Nat) (hb : b < 4294967296) (w : World) : Calls Tryz.prog 61 #[.int .u32 (b : Int)] w fun e w' => e = .returned (.tuple #[.agg (wn (xt b)), .int .i64 (if okB b then 0 else 50)]) ∧ Below w.heap.size w w' := by
  unfold xt
  cases h : okB b
  · exact expand_no b hb h w
  · exact expand_yes b hb h w
end Go.Proofs.YtdkemnjkhclbkaaGreatDoor
