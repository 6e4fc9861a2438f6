/- The contracts of wide.Hex and the document's Hex. -/
import Derived.Test.YtmfpnlnhebjelaaUg0
import Derived.Test.YtmfpnlnhebjelaaXn0
namespace Go.Proofs.Ytmfpnlnhebjelaa
open Go.RowKit
open Go.Deep
/-- The bytes of a number. -/
def byL (m k : Nat) : List UInt8 := (List.range k).map fun i => UInt8.ofNat (dg 256 m i)
theorem byL_len (m k : Nat) : (byL m k).length = k := by simp [byL]
theorem bc_hc (m k : Nat) : bc k (dg 256 m) = hc (byL m k) := by
  unfold bc hc cellsL byL
  congr 1
  rw [List.map_map]
  apply List.map_congr_left
  intro i _
  have := dg_lt (B := 256) (by decide) m i
  simp only [Function.comp, UInt8.toNat_ofNat']
  rw [Nat.mod_eq_of_lt (by simpa using this)]
theorem by8_byL (m k i : Nat) (h : i < k) : by8 (byL m k) i = dg 256 m i := by
  have := dg_lt (B := 256) (by decide) m i
  unfold by8 byL
  rw [List.getD_eq_getElem?_getD, List.getElem?_map, List.getElem?_range h]
  simp only [Option.map_some, Option.getD_some, UInt8.toNat_ofNat']
  exact Nat.mod_eq_of_lt (by simpa using this)
theorem dg16 (m i : Nat) : dg 256 m i / 16 = dg 16 m (2 * i + 1) ∧ dg 256 m i % 16 = dg 16 m (2 * i) := by
  unfold dg
  have e : (256 : Nat) ^ i = 16 ^ (2 * i) := by rw [Nat.pow_mul]
  rw [e, Nat.pow_succ, ← Nat.div_div_eq_div_mul]
  generalize m / 16 ^ (2 * i) = X
  omega
/-- The first k digits to the base 16, of 64. -/
def hexK (m k : Nat) : List UInt8 := (List.range k).map fun j => hexb (dg 16 m (63 - j))
theorem hexK_len (m k : Nat) : (hexK m k).length = k := by simp [hexK]
theorem hexK_snoc (m k : Nat) : hexK m (k + 1) = hexK m k ++ [hexb (dg 16 m (63 - k))] := by simp [hexK, List.range_succ]
theorem hexL_byL (m : Nat) : ∀ n, hexL (byL m n).reverse = ((List.range (2 * n)).map fun j => hexb (dg 16 m j)).reverse
  | 0 => rfl
  | n + 1 => by
    have h := dg_lt (B := 256) (by decide) m n
    have e : (UInt8.ofNat (dg 256 m n)).toNat = dg 256 m n := by
      rw [UInt8.toNat_ofNat']
      exact Nat.mod_eq_of_lt (by simpa using h)
    rw [show 2 * (n + 1) = 2 * n + 1 + 1 by omega, List.range_succ, List.range_succ]
    unfold byL
    rw [List.range_succ]
    simp only [List.map_append, List.map_cons, List.map_nil, List.reverse_append, List.reverse_cons, List.reverse_nil, List.nil_append, List.cons_append, hexL, e]
    rw [(dg16 m n).1, (dg16 m n).2]
    have := hexL_byL m n
    unfold byL at this
    rw [this]
theorem hexK_all (m : Nat) : hexK m 64 = hexL (byL m 32).reverse := by
  rw [hexL_byL]
  unfold hexK
  apply List.ext_getElem
  · simp
  · intro i h1 h2
    simp at h1
    simp
/-- A digit of a number to the base 16, out of its word. -/
theorem dg4b (m i : Nat) : wd m (i / 16) / 2 ^ (4 * (i % 16)) % 16 = dg 16 m i := by
  unfold wd dg
  have e : 16 ^ i = 18446744073709551616 ^ (i / 16) * 2 ^ (4 * (i % 16)) := by
    rw [show (18446744073709551616 : Nat) = 2 ^ 64 from rfl, show (16 : Nat) = 2 ^ 4 from rfl, ← Nat.pow_mul, ← Nat.pow_mul, ← Nat.pow_add]
    congr 1
    omega
  rw [e, ← Nat.div_div_eq_div_mul]
  generalize m / 18446744073709551616 ^ (i / 16) = X
  have h8 : (18446744073709551616 : Nat) = 2 ^ (4 * (i % 16)) * (16 * 2 ^ (60 - 4 * (i % 16))) := by
    rw [show (16 : Nat) * 2 ^ (60 - 4 * (i % 16)) = 2 ^ (4 + (60 - 4 * (i % 16))) by rw [Nat.pow_add], ← Nat.pow_add, show 4 * (i % 16) + (4 + (60 - 4 * (i % 16))) = 64 by omega]
  rw [h8, Nat.mod_mul_right_div_self, Nat.mod_mul_right_mod]
theorem own_newH (w : World) : Own (w.alloc (.cells #[] 5)) (.slice (some ⟨w.heap.size, 0, none⟩) 0 0) [] :=
  row_own (l := []) (C := 0) (f := fun _ => .int .u8 0) ⟨_, heap_alloc_last _ _, rfl, fun i hi => by omega⟩ (by simp) (by unfold maxLen; omega) (fun i hi => by simp at hi)
/-- A number's words, and a world beside. -/
def Jn (w W : World) (t : TypeId) (m : Nat) : Prop := Nd W w.heap.size t 4 (wd m) ∧ Below w.heap.size w W
theorem Jn.onto {w W W' : World} {t : TypeId} {m : Nat} {v v' : Value} (j : Jn w W t m) (h : Onto W W' v v') (far : ∀ g, v.ownBlock = some g → w.heap.size + 1 ≤ g) : Jn w W' t m :=
  ⟨j.1.of_block (h.grown.block _ j.1.lt (fun e => by have := far _ e.symm; omega)), j.2.trans (h.below j.2.size (fun k hk => by have := far k hk; omega))⟩
section
set_option maxRecDepth 10000
set_option maxHeartbeats 2000000
theorem hexW_any (m : Nat) (w : World) : Calls Try.prog 9 #[.agg (wn m)] w fun e w' => e = .returned (.string ⟨(hexK m 64).toArray⟩) ∧ Below w.heap.size w w' := by
  have HB := hide fun W => bytesW_any m W
  have HT := hide fun W => numText_any (byL m 32) (byL_len m 32) W
  rw [← hexK_all, ← bc_hc] at HT
  have J0 := hide (heap_alloc_last w (.cells (wn m) 24))
  have B0 := hide ((Below.refl w.heap.size w).alloc (Nat.le_refl _) (.cells (wn m) 24))
  generalize (⟨(hexK m 64).toArray⟩ : ByteArray) = S at *
  go_enter Try.func9, Try.ntmps9
  go_wp2_with (first | refine wpList_boxA rfl _ rfl (wn m) rfl ?_ | refine wpList_loadA AW rfl _ rfl _ rfl (wn m) (wn_size _) 24 J0.out ?_ | (go_at_call 11; refine (HB.out _).mono ?_; rintro e w1 ⟨rfl, be1⟩; have B1 := hide (below_next B0.out be1); clear be1) | (go_at_call 41; refine (HT.out _).mono ?_; rintro e w2 ⟨rfl, be2⟩; have B2 := hide (below_next B1.out be2); clear be2))
  go_ret
  exact ⟨rfl, B2.out⟩
theorem rhex_any (m : Nat) (w : World) : Calls Try.prog 10 #[.agg (wn m)] w fun e w' => e = .returned (.string ⟨(hexK m 64).toArray⟩) ∧ Below w.heap.size w w' := by
  have J0 : Hid (Jn w ((w.alloc (.cells (wn m) 23)).alloc (.cells #[] 5)) 23 m) := ⟨Nd.of_heap (blk2x w _ _).1, below2x w _ _⟩
  have O0 : Hid (Own ((w.alloc (.cells (wn m) 23)).alloc (.cells #[] 5)) (.slice (some ⟨w.heap.size + 1, 0, none⟩) 0 0) (hexK m 0)) := by
    have := own_newH (w.alloc (.cells (wn m) 23))
    rw [show (w.alloc (.cells (wn m) 23)).heap.size = w.heap.size + 1 from by simp] at this
    exact this
  go_enter Try.func10, Try.ntmps10
  go_wp2_with (first | refine wpList_boxA rfl _ rfl (wn m) rfl ?_)
  generalize (w.alloc (.cells (wn m) 23)).alloc (.cells #[] 5) = W0 at *
  go_loopw [3, 4] (fun v d wr => ∃ k : Nat, k ≤ 64 ∧ d = .int .i64 (63 - (k : Int)) ∧ Hid (Own wr v (hexK m k)) ∧ Hid (Jn w wr 23 m) ∧ Hid (∀ g, v.ownBlock = some g → w.heap.size + 1 ≤ g)) (fun _ d _ => (1 + intOf d).toNat)
  case atStart => exact ⟨0, by omega, rfl, O0, J0, fun g hg => by cases hg; exact Nat.le_refl _⟩
  case round =>
    clear J0 O0
    obtain ⟨k, hk, rfl, o, J, far⟩ := hrel
    by_cases hlt : k < 64
    · obtain ⟨i, hi⟩ : ∃ i, i + k = 63 := ⟨63 - k, by omega⟩
      have e1 : (63 : Int) - k = i := by omega
      rw [e1]
      have i0 : (0 : Int) ≤ i := by omega
      have i1 : (i : Int) < 64 := by omega
      have ca := J.out.1.cell (show i / 16 < 4 by omega)
      have d1 : (i : Int) / 16 = ((i / 16 : Nat) : Int) := by omega
      have d2 : (i : Int) % 16 = ((i % 16 : Nat) : Int) := by omega
      have q4 : ((i / 16 : Nat) : Int) < 4 := by omega
      have q0 : (0 : Int) ≤ ((i / 16 : Nat) : Int) := by omega
      have c1 : IntKind.i64.wrap (4 * ((i % 16 : Nat) : Int)) = ((4 * (i % 16) : Nat) : Int) := by rw [wrapI _ (by omega) (by omega)]; omega
      have r6 : ((4 * (i % 16) : Nat) : Int) ≤ 64 := by omega
      have r0 : (0 : Int) ≤ ((4 * (i % 16) : Nat) : Int) := by omega
      have hiw : IntKind.i64.wrap ((i : Int) - 1) = i - 1 := wrapI _ (by omega) (by omega)
      have x0 := shr_word (wd m (i / 16)) (4 * (i % 16))
      have h8 := dg4b m i
      have h16 := dg_lt (B := 16) (by decide) m i
      have HSn := hide (hexK_snoc m k)
      rw [show 63 - k = i by omega] at HSn
      obtain ⟨x, hx⟩ : ∃ x, x = dg 16 m i := ⟨_, rfl⟩
      rw [← hx] at h8 HSn h16
      obtain ⟨z, hz⟩ : ∃ z, z = wd m (i / 16) / 2 ^ (4 * (i % 16)) := ⟨_, rfl⟩
      rw [← hz] at x0 h8
      have x4 : (z : Int) % 16 = (x : Int) := by omega
      have x5 : (0 : Int) ≤ x := by omega
      have x6 : (x : Int) < 16 := by omega
      have HX := hide h16
      have LL := hide (show ((63 : Int) - ((k + 1 : Nat) : Int)) = (i : Int) - 1 by omega)
      have LK := hide hlt
      clear hlt hk h8 hx hz e1 hi h16
      generalize wd m (i / 16) = W8 at *
      generalize 4 * (i % 16) = r at *
      generalize i % 16 = e at *
      generalize i / 16 = q at *
      go_wp2_with (at_builtin; refine wpList_app rfl _ _ rfl u3 _ rfl (o.out.alloc _) ⟨wr.heap.size, 0, none⟩ 1 1 [hexb x] rfl rfl (one_new _ _ _ (dig_at x HX.out _ rfl _)) (by have := LK.out; rw [hexK_len]; omega) ?_; intro v' w3 hown' hon3)
      have hon : Onto wr w3 u3 v' := ((Onto.refl _ _).alloc _).trans hon3
      have L1 := LK.out
      exact ⟨⟨k + 1, by omega, by rw [LL.out], by rw [HSn.out]; exact hown', hide (J.out.onto hon far.out), hide (hon.far (by have := J.out.1.lt; omega) far.out)⟩, by simp [intOf]; omega⟩
    · have hke : k = 64 := by omega
      subst hke
      have hcv := conv_own o.out
      have h7 : ¬ (0 : Int) ≤ 63 - ((64 : Nat) : Int) := by omega
      clear hlt hk
      go_wp2
      go_ret
      exact ⟨rfl, J.out.2⟩
end
end Go.Proofs.Ytmfpnlnhebjelaa
