/- The contract of wide.Text. -/
import Derived.Test.YtmfpnlnhebjelaaUb0
import Derived.Test.YtmfpnlnhebjelaaWl
namespace Go.Proofs.Ytmfpnlnhebjelaa
open Go.RowKit
open Go.Deep
/-- A number, and a row of bytes. -/
structure Tx (w W : World) (x : Nat) (f : Nat → Nat) : Prop where
  a : W.heap[w.heap.size]? = some (.cells (wn x) 24 (0, 0))
  d : Nb W (w.heap.size + 1) 68 78 f
  bel : Below w.heap.size w W
section
variable {w W W' : World} {x : Nat} {f : Nat → Nat}
theorem Tx.start (w : World) (x : Nat) : Tx w ((w.alloc (.cells (wn x) 24)).alloc (.cells (bc 78 (fun _ => 0)) 68)) x (fun _ => 0) :=
  ⟨(blk2x w _ _).1, Nb.of_heap (blk2x w _ _).2, below2x w _ _⟩
theorem Tx.next (j : Tx w W x f) (h : Below W.heap.size W W') : Tx w W' x f := ⟨(h.block _ (lt_heap j.a)).trans j.a, j.d.below h, below_next j.bel h⟩
theorem Tx.put (j : Tx w W x f) (y : Nat) : Tx w (W.setRow w.heap.size (wn y)) y f := ⟨setRow_heap _ _ _ _ _ _ j.a, j.d.row (by omega) _, below_setRow j.bel (Nat.le_refl _) _⟩
theorem Tx.set (j : Tx w W x f) (i v : Nat) {f' : Nat → Nat} (e : ∀ k, k < 78 → (if k = i then v else f k) = f' k) : Tx w (W.setCell ⟨w.heap.size + 1, i, none⟩ (.int .u8 ((v : Nat) : Int))) x f' :=
  ⟨(Below.heap_setCell _ _ _ _ (by simp <;> omega)).trans j.a, (j.d.set i v).congr e, j.bel.setCell (by simp <;> omega) _⟩
theorem Tx.congr (j : Tx w W x f) {f' : Nat → Nat} (e : ∀ k, k < 78 → f k = f' k) : Tx w W x f' := ⟨j.a, j.d.congr e, j.bel⟩
end
theorem nd_more (m k : Nat) (h : k < nd m) : k = 0 ∨ m / 10 ^ k ≠ 0 := by
  obtain ⟨a1, a2, a3⟩ := nd_spec m
  rcases a3 with a3 | a3
  · left; omega
  · right
    have h1 : 10 ^ k ≤ 10 ^ (nd m - 1) := Nat.pow_le_pow_right (by decide) (by omega)
    have h2 := Nat.div_pos (Nat.le_trans h1 a3) (Nat.pow_pos (n := k) (show 0 < 10 by decide))
    omega
theorem nd_zero (m : Nat) : m / 10 ^ nd m = 0 := Nat.div_eq_of_lt (nd_spec m).2.1
section
set_option maxRecDepth 10000
set_option maxHeartbeats 4000000
theorem text_any (m : Nat) (hm : m < M) (w : World) : Calls Try.prog 7 #[.agg (wn m)] w fun e w' => e = .returned (.string (txt m (nd m))) ∧ Below w.heap.size w w' := by
  have J0 : Hid (Tx w ((w.alloc (.cells (wn m) 24)).alloc (.cells (bc 78 (fun _ => 0)) 68)) (m / 10 ^ 0) (tf m 0)) := by
    have := (Tx.start w m).congr (f' := tf m 0) (fun i hi => by rw [tf, if_neg (by omega)])
    rw [show m / 10 ^ 0 = m by simp]
    exact this
  have N78 := hide (nd_78 m hm)
  have HM := hide hm
  clear hm
  go_enter Try.func7, Try.ntmps7
  go_wp2_with (first | refine wpList_boxA rfl _ rfl (wn m) rfl ?_ | refine wpList_allocA A78 rfl rfl ?_)
  generalize (w.alloc (.cells (wn m) 24)).alloc (.cells (bc 78 (fun _ => 0)) 68) = W0 at *
  go_loopw [4, 5, 6] (fun d _ _ wr => ∃ k : Nat, k ≤ nd m ∧ d = .int .i64 (78 - (k : Int)) ∧ Hid (Tx w wr (m / 10 ^ k) (tf m k))) (fun d _ _ _ => (intOf d).toNat)
  case atStart => exact ⟨0, Nat.zero_le _, rfl, J0⟩
  case round =>
    clear J0
    obtain ⟨k, hk, rfl, J⟩ := hrel
    have h78 := N78.out
    have hX : m / 10 ^ k < M := Nat.lt_of_le_of_lt (Nat.div_le_self _ _) HM.out
    by_cases hlt : k < nd m
    · have HD := hide fun W => divWord_any (m / 10 ^ k) 10 hX (by decide) (by decide) W
      rw [Nat.div_div_eq_div_mul, ← Nat.pow_succ] at HD
      have hmore := nd_more m k hlt
      have HZ := hide fun W => zero_any _ hX W
      obtain ⟨i, hi⟩ : ∃ i, i + k + 1 = 78 := ⟨77 - k, by omega⟩
      have e1 : IntKind.i64.wrap (78 - (k : Int) - 1) = (i : Int) := by rw [wrapI _ (by omega) (by omega)]; omega
      have e2 : (0 : Int) ≤ i := by omega
      have e3 : (i : Int) < 78 := by omega
      have hd10 : m / 10 ^ k % 10 < 10 := Nat.mod_lt _ (by decide)
      have e4 : IntKind.u8.wrap ((m / 10 ^ k % 10 : Nat) : Int) = ((m / 10 ^ k % 10 : Nat) : Int) := by simp only [IntKind.wrap_u8]; omega
      have e5 : IntKind.u8.wrap (48 + ((m / 10 ^ k % 10 : Nat) : Int)) = ((48 + m / 10 ^ k % 10 : Nat) : Int) := by simp only [IntKind.wrap_u8]; omega
      have TS : Hid (∀ j, j < 78 → (if j = i then 48 + m / 10 ^ k % 10 else tf m k j) = tf m (k + 1) j) := fun j hj => tf_step m k i j hi hj
      have KK := hide (And.intro (show k + 1 ≤ nd m from hlt) (show (78 : Int) - ((k + 1 : Nat) : Int) = i by omega))
      have ME := hide (show (i : Int).toNat < (78 - (k : Int)).toNat by omega)
      have I78 := hide (show i < 78 by omega)
      have a0 := hide J.out.a
      have hkz : ((78 - (k : Int)) == 78) = true ∨ (((78 - (k : Int)) == 78) = false ∧ decide (m / 10 ^ k = 0) = false) := by
        rcases hmore with h | h
        · exact .inl (by simp [h])
        · rcases Nat.eq_zero_or_pos k with h0 | h0
          · exact .inl (by simp [h0])
          · refine .inr ⟨by simp; omega, by simp [h]⟩
      generalize hR : m / 10 ^ (k + 1) = R at *
      have HR := hide hR
      generalize m / 10 ^ k % 10 = dd at *
      generalize m / 10 ^ k = X at *
      generalize 48 + dd = v at *
      generalize (78 - (k : Int)) = P at *
      clear hR hk h78 hX hlt hmore hi hd10
      rcases hkz with hz1 | ⟨hz1, hz2⟩
      case' inl =>
        go_upto_region 5 with (first | refine wpList_loadA AW rfl _ rfl w.heap.size rfl (wn X) (wn_size _) 24 a0.out ?_ | (go_at_call 39; refine (HD.out _).mono ?_; rintro e w2 ⟨rfl, be⟩; have J2 := hide (J.out.next be); clear be) | refine wpList_allocA AW rfl rfl ?_ | refine wpList_store_newA AW rfl _ _ rfl _ rfl (wn R) (wn_size _) (wn_one _) rfl rfl ?_)
      case' inr =>
        rw [hz2] at HZ
        go_upto_region 5 with (first | refine wpList_loadW AW rfl _ rfl w.heap.size rfl (wn X) (wn_size _) 24 a0.out ?_ | (go_at_call 38; refine (HZ.out _).mono ?_; rintro e w1 ⟨rfl, be⟩; have J1 := hide (J.out.next be); have a1 := hide J1.out.a; clear be) | refine wpList_loadA AW rfl _ rfl w.heap.size rfl (wn X) (wn_size _) 24 a1.out ?_ | (go_at_call 39; refine (HD.out _).mono ?_; rintro e w2 ⟨rfl, be⟩; have J2 := hide (J1.out.next be); clear be) | refine wpList_allocA AW rfl rfl ?_ | refine wpList_store_newA AW rfl _ _ rfl _ rfl (wn R) (wn_size _) (wn_one _) rfl rfl ?_)
        clear J1 a1 hz2
      all_goals
        have J3 := hide (J2.out.next (below_allocZ w2 (.cells (wn R) 24)))
        have g3 := hide (heap_alloc_last w2 (.cells (wn R) 24))
        generalize w2.alloc (.cells (wn R) 24) = W3 at *
        generalize w2.heap.size = g5 at *
        clear J J2 a0 HD HZ
        have a3 := hide J3.out.a
        have J4 := hide (J3.out.put R)
        have cd := J4.out.d.cell I78.out
        have fd := J4.out.d.fz i
        go_wp2_with (first | refine wpList_loadA AW rfl _ rfl g5 rfl (wn R) (wn_size _) 24 g3.out ?_ | refine wpList_storeA AW rfl _ _ rfl _ (wn R) (wn_size _) (wn_one _) rfl rfl (wn X) (wn_size _) 24 a3.out ?_)
        exact ⟨⟨k + 1, KK.out.1, by rw [KK.out.2], by rw [HR.out]; exact J4.out.set i v TS.out⟩, by simpa [intOf] using ME.out⟩
    · have hke : k = nd m := by omega
      subst hke
      have h1 := (nd_spec m).1
      have hzz := nd_zero m
      rw [hzz] at J
      have HZ : Hid (∀ W, Calls Try.prog 38 #[.agg (wn 0)] W fun e w' => e = .returned (.bool true) ∧ Below W.heap.size W w') := fun W => zero_any 0 M_pos W
      have hz1 : ((78 - (nd m : Int)) == 78) = false := by simp; omega
      obtain ⟨i, hi⟩ : ∃ i, i + nd m = 78 := ⟨78 - nd m, by omega⟩
      have ei : (78 - (nd m : Int)) = i := by omega
      rw [ei] at hz1 ⊢
      have i0 : (0 : Int) ≤ i := by omega
      have i8 : (i : Int) ≤ 78 := by omega
      have e7 : ¬ 78 = i := by omega
      have E8 := hide (show 78 - i = nd m by omega)
      have HT : Hid (∀ W, (∀ j, j < nd m → W.cell? ⟨w.heap.size + 1, i + j, none⟩ = some (.int .u8 ((48 + dg 10 m (nd m - 1 - j) : Nat) : Int))) → ∀ cap, (convert 72 9 (.slice (some ⟨w.heap.size + 1, i, none⟩) (nd m) cap)).run Try.prog W = .ok (.string (txt m (nd m))) W) := fun W h cap => conv_bytes W (w.heap.size + 1) i (nd m) cap _ (fun j _ => by have := dg_lt (B := 10) (by decide) m (nd m - 1 - j); omega) h
      have HC : Hid (∀ j, j < nd m → i + j < 78 ∧ tf m (nd m) (i + j) = 48 + dg 10 m (nd m - 1 - j)) := fun j hj => ⟨by omega, by rw [tf, if_pos (by omega), show 77 - (i + j) = nd m - 1 - j by omega]⟩
      have a0 := hide J.out.a
      clear hX hlt h1 hzz hk h78 ei
      generalize hS : txt m (nd m) = S at *
      have HS := hide hS
      clear hS
      generalize hn : nd m = n at *
      have HN := hide hn
      clear hn
      go_upto_region 7 with (first | refine wpList_loadW AW rfl _ rfl w.heap.size rfl (wn 0) (wn_size _) 24 a0.out ?_ | (go_at_call 38; refine (HZ.out _).mono ?_; rintro e w1 ⟨rfl, be⟩; have J1 := hide (J.out.next be); clear be))
      have hcv := HT.out w1 (fun j hj => by rw [J1.out.d.cell (HC.out j hj).1, (HC.out j hj).2]) n
      rw [← E8.out] at hcv
      clear hi
      go_wp2
      go_ret
      exact ⟨by rw [HN.out, HS.out]; rfl, J1.out.bel⟩
end
end Go.Proofs.Ytmfpnlnhebjelaa
