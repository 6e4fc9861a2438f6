/- The contract of the document's Text. -/
import Derived.Test.YtmfpnlnhebjelaaUb0
import Derived.Test.YtmfpnlnhebjelaaZl
import Derived.Test.YtmfpnlnhebjelaaWl
import Derived.Test.YtmfpnlnhebjelaaUc0
import Derived.Test.YtmfpnlnhebjelaaZu
namespace Go.Proofs.Ytmfpnlnhebjelaa
open Go.RowKit
open Go.Deep
theorem txt_zero (m : Nat) : txt m 0 = ⟨#[]⟩ := rfl
/-- A digit more, ahead of the others. -/
theorem txt_step (m k : Nat) : (⟨#[UInt8.ofNat (48 + m / 10 ^ k % 10)]⟩ : ByteArray) ++ txt m k = txt m (k + 1) := by
  apply ByteArray.ext
  rw [ByteArray.data_append]
  apply Array.ext'
  rw [Array.toList_append]
  unfold txt
  simp only [List.range_succ_eq_map, List.map_cons, List.map_map, List.cons_append, List.nil_append, List.cons.injEq]
  refine ⟨by simp [dg], ?_⟩
  apply List.map_congr_left
  intro j hj
  simp only [Function.comp]
  congr 3
  omega
theorem txt_size (m k : Nat) : (txt m k).size = k := by
  show (txt m k).data.size = k
  simp [txt]
theorem conv_one (w : World) (x : Nat) (hx : x < 256) : (convert 72 9 (.slice (some ⟨w.heap.size, 0, none⟩) 1 1)).run Try.prog (w.alloc (.cells #[.int .u8 (x : Int)] 5)) = .ok (.string ⟨#[UInt8.ofNat x]⟩) (w.alloc (.cells #[.int .u8 (x : Int)] 5)) := by
  have := conv_bytes (w.alloc (.cells #[.int .u8 (x : Int)] 5)) w.heap.size 0 1 1 (fun _ => x) (fun _ _ => hx) (fun j hj => by
    have : j = 0 := by omega
    subst this
    exact cell_of_row _ _ _ _ _ _ (heap_alloc_last w _))
  simpa using this
section
set_option maxRecDepth 10000
set_option maxHeartbeats 4000000
theorem rtext_any (m : Nat) (hm : m < M) (w : World) : Calls Try.prog 8 #[.agg (wn m)] w fun e w' => e = .returned (.string (txt m (nd m))) ∧ Below w.heap.size w w' := by
  have J0 : Hid (Rs w (w.alloc (.cells (wn m) 23)) [(w.heap.size, 23, m / 10 ^ 0)]) := by
    rw [show m / 10 ^ 0 = m by simp]
    exact Rs.start1 w _ m
  have N78 := hide (nd_78 m hm)
  have HM := hide hm
  have B10 : Hid (∀ W, (Instr.build 23 #[(0, .int .u64 10)]).run Try.prog W = .ok (.agg (wn 10)) W) := fun W => run_buildR 10 (by decide) W
  clear hm
  go_enter Try.func8, Try.ntmps8
  go_wp2_with (first | refine wpList_boxA rfl _ rfl (wn m) rfl ?_ )
  generalize w.alloc (.cells (wn m) 23) = W0 at *
  go_loopw [3, 4, 5] (fun s _ _ wr => ∃ k : Nat, k < nd m ∧ s = .string (txt m k) ∧ Hid (Rs w wr [(w.heap.size, 23, m / 10 ^ k)])) (fun s _ _ _ => 100 - lenS s)
  case atStart => exact ⟨0, (nd_spec m).1, rfl, J0⟩
  case round =>
    clear J0
    obtain ⟨k, hk, rfl, J⟩ := hrel
    have h78 := N78.out
    have hX : m / 10 ^ k < M := Nat.lt_of_le_of_lt (Nat.div_le_self _ _) HM.out
    have HD := hide fun W => rdiv_any (m / 10 ^ k) 10 hX (by decide) (by decide) W
    rw [Nat.div_div_eq_div_mul, ← Nat.pow_succ] at HD
    have hY : m / 10 ^ (k + 1) < M := Nat.lt_of_le_of_lt (Nat.div_le_self _ _) HM.out
    have hd10 : m / 10 ^ k % 10 < 10 := Nat.mod_lt _ (by decide)
    have hwd := wd_small (m / 10 ^ k % 10) (by omega)
    have TS := hide (txt_step m k)
    have hsz : (txt m k).size = k := txt_size m k
    have e5 : IntKind.u64.wrap (48 + ((m / 10 ^ k % 10 : Nat) : Int)) = ((48 + m / 10 ^ k % 10 : Nat) : Int) := by rw [wrapu _ (by omega) (by omega)]; omega
    have e6 : IntKind.u8.wrap ((48 + m / 10 ^ k % 10 : Nat) : Int) = ((48 + m / 10 ^ k % 10 : Nat) : Int) := by simp only [IntKind.wrap_u8]; omega
    have X256 := hide (show 48 + m / 10 ^ k % 10 < 256 by omega)
    have E0 := hide fun W => eqR (m / 10 ^ (k + 1)) 0 hY M_pos W
    have KZ : Hid (decide (m / 10 ^ (k + 1) = 0) = true → k + 1 = nd m) := fun h => by
      have h := of_decide_eq_true h
      rcases Nat.lt_or_ge (k + 1) (nd m) with h2 | h2
      · rcases nd_more m (k + 1) h2 with h3 | h3
        · omega
        · exact absurd h h3
      · omega
    have KN : Hid (decide (m / 10 ^ (k + 1) = 0) = false → k + 1 < nd m) := fun h => by
      have h := of_decide_eq_false h
      rcases Nat.lt_or_ge (k + 1) (nd m) with h2 | h2
      · exact h2
      · exact absurd (by rw [show k + 1 = nd m by omega]; exact nd_zero m) h
    have r0 := hide (J.out.at (g := w.heap.size) (t := 23) (n := m / 10 ^ k) (by simp))
    generalize hR : m / 10 ^ (k + 1) = R at *
    have HR := hide hR
    generalize m / 10 ^ k % 10 = dd at *
    generalize m / 10 ^ k = X at *
    clear hR hX hY
    go_upto_region 3 with (first | refine wpList_loadA AR rfl _ rfl w.heap.size rfl (wn X) (wn_size _) 23 r0.out ?_ | refine wpList_build1 rfl _ rfl _ (wn 10) B10.out rfl ?_ | (go_at_call 40; refine (HD.out _).mono ?_; rintro e w9 ⟨rfl, be⟩; have J9 := hide ((J.out.next be).two 23 R dd); clear be) | refine wpList_allocA AR rfl rfl ?_ | refine wpList_storeA AR rfl _ _ rfl _ (wn R) (wn_size _) (wn_one _) rfl rfl (wn 0) (wn_size _) 23 (blk2x w9 (.cells (wn 0) 23) (.cells (wn 0) 23)).1 ?_ | refine wpList_storeA AR rfl _ _ rfl _ (wn dd) (wn_size _) (wn_one _) rfl rfl (wn 0) (wn_size _) 23 (blk2s w9 (.cells (wn 0) 23) (.cells (wn 0) 23) (wn R)) ?_)
    try simp only [Act.put, List.setIfInBounds_toArray, List.set_cons_succ, List.set_cons_zero, hszU]
    generalize (((w9.alloc (.cells (wn 0) 23)).alloc (.cells (wn 0) 23)).setRow w9.heap.size (wn R)).setRow (w9.heap.size + 1) (wn dd) = W9 at *
    generalize w9.heap.size = g at *
    have c0 := (Nd.of_heap (W := W9) (f := wd dd) (k := 4) (J9.out.at (g := g + 1) (t := 23) (n := dd) (by simp))).cell (show 0 < 4 by omega)
    rw [hwd.1] at c0
    have hcv := conv_one W9 (48 + dd) X256.out
    obtain ⟨x, hx⟩ : ∃ x, x = 48 + dd := ⟨_, rfl⟩
    rw [← hx] at e5 e6 hcv TS
    have J10 := hide (J9.out.next (below_allocZ W9 (.cells #[.int .u8 (x : Int)] 5)))
    have KB := hide (And.intro hk h78)
    have hov : ¬ 9223372036854775807 < 1 + (txt m k).size := by rw [hsz]; omega
    clear J J9 r0 HD hd10 hwd hx X256 hsz hk h78
    go_upto_region 4 with fail
    clear hov
    rw [TS.out]
    have rq := hide (J10.out.at (g := g) (t := 23) (n := R) (by simp))
    have ra := hide (J10.out.at (g := w.heap.size) (t := 23) (n := X) (by simp))
    have J11 : Hid (Rs w ((W9.alloc (.cells #[.int .u8 (x : Int)] 5)).setRow w.heap.size (wn R)) [(w.heap.size, 23, R)]) := Rs.put J10.out w.heap.size 23 R ⟨X, by simp⟩ (by omega) (fun p hp => by
      simp only [List.mem_cons, List.not_mem_nil, or_false] at hp
      exact .inl hp)
    clear J10
    go_upto_region 5 with (first | refine wpList_loadA AR rfl _ rfl g rfl (wn R) (wn_size _) 23 rq.out ?_ | refine wpList_storeA AR rfl _ _ rfl _ (wn R) (wn_size _) (wn_one _) rfl rfl (wn X) (wn_size _) 23 ra.out ?_)
    generalize (W9.alloc (.cells #[.int .u8 (x : Int)] 5)).setRow w.heap.size (wn R) = W11 at *
    clear rq ra
    have ra := hide (J11.out.at (g := w.heap.size) (t := 23) (n := R) (by simp))
    generalize decide (R = 0) = rz at *
    cases rz
    · have KN2 := hide (KN.out rfl)
      go_wp2_with (first | refine wpList_loadA AR rfl _ rfl _ rfl (wn R) (wn_size _) 23 ra.out ?_ | refine wpList_buildA AR rfl rfl ?_ | refine wpList_eql 23 _ _ _ rfl (wn R) (wn 0) rfl rfl rfl eqgR false E0.out ?_)
      have L1 := KB.out
      exact ⟨⟨k + 1, KN2.out, rfl, by rw [HR.out]; exact J11⟩, by simp only [lenS]; simp [txt_size]; omega⟩
    · have KN2 := hide (KZ.out rfl)
      go_wp2_with (first | refine wpList_loadA AR rfl _ rfl _ rfl (wn R) (wn_size _) 23 ra.out ?_ | refine wpList_buildA AR rfl rfl ?_ | refine wpList_eql 23 _ _ _ rfl (wn R) (wn 0) rfl rfl rfl eqgR true E0.out ?_)
      go_ret
      exact ⟨by rw [← KN2.out]; rfl, J11.out.bel⟩
end
end Go.Proofs.Ytmfpnlnhebjelaa
