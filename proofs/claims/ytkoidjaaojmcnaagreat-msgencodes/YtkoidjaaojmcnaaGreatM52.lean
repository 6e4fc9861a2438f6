/- Messages as bytes, and back: Decode of what Encode tells. The law's awake: a ping there and back. -/
import Derived.Test.YtkoidjaaojmcnaaGreatM48
import Derived.Test.YtkoidjaaojmcnaaGreatM49
import Derived.Test.YtkoidjaaojmcnaaGreatM50
import Derived.Test.YtkoidjaaojmcnaaGreatM51
import Derived.Test.YtkoidjaaojmcnaaGreatM38
namespace Go.Proofs.YtkoidjaaojmcnaaGreat
open Go.RowKit
open Go.Deep
set_option linter.unusedVariables false
set_option linter.unusedSimpArgs false
theorem Mg.enc0 {m : Mg} (h : m.encE = 0) : (1 ≤ m.kind ∧ m.kind ≤ 18) ∧ m.more = false ∧ m.form = true ∧ m = m.namedK ∧ m.pay.length ≤ 16384 := by
  unfold Mg.encE at h
  by_cases h1 : 1 ≤ m.kind ∧ m.kind ≤ 18
  · rw [if_neg (by simpa using h1)] at h
    by_cases h2 : m.more = true
    · rw [if_pos h2] at h; omega
    · rw [if_neg h2] at h
      by_cases h3 : m.form = false ∨ m.bareK ≠ bareM m.kind 0
      · rw [if_pos h3] at h; omega
      · rw [if_neg h3] at h
        by_cases h4 : 16384 < m.pay.length
        · rw [if_pos h4] at h; omega
        · refine ⟨h1, by simpa using h2, ?_, m.named_iff.2 ?_, by omega⟩
          · cases hf : m.form
            · exact absurd (.inl hf) h3
            · rfl
          · exact Classical.byContradiction fun e => h3 (.inr e)
  · rw [if_pos h1] at h; omega
theorem message_on (m : Mg) (he : m.encE = 0) (ht : -9223372036854775808 ≤ m.time ∧ m.time ≤ 9223372036854775807) {w : World} {b : Nat} {t : ByteArray} (h : Gr w b t m.pay) (hs : t.size ≤ maxLen) : Calls Tryz.prog 32 #[.agg #[.pointer (some ⟨b, 0, none⟩), .string t], .int .i64 m.kind] w fun e w' => ∃ v', e = .returned (.agg (m.cells v').toArray) ∧ Gr w' b t [] ∧ (∀ W', Rfk (fun j => j < w.heap.size) w' W' → ML W' v' m) ∧ Rfr b w w' := by
  obtain ⟨hk, hm, hf, hn, _⟩ := Mg.enc0 he
  have d := Mg.more_d hm
  have f := Mg.form_d hf
  have hc : m.kind = 1 ∨ m.kind = 2 ∨ m.kind = 3 ∨ m.kind = 4 ∨ m.kind = 5 ∨ m.kind = 6 ∨ m.kind = 7 ∨ m.kind = 8 ∨ m.kind = 9 ∨ m.kind = 10 ∨ m.kind = 11 ∨ m.kind = 12 ∨ m.kind = 13 ∨ m.kind = 14 ∨ m.kind = 15 ∨ m.kind = 16 ∨ m.kind = 17 ∨ m.kind = 18 := by omega
  rcases hc with hk | hk | hk | hk | hk | hk | hk | hk | hk | hk | hk | hk | hk | hk | hk | hk | hk | hk <;> rw [show Value.int .i64 m.kind = .int .i64 _ from congrArg (Value.int .i64) hk]
  · exact msg_1 m hk hn (d.1 hk) ht h hs
  · exact msg_2 m hk hn h hs
  · exact msg_3 m hk hn h hs
  · exact msg_4 m hk hn h hs
  · exact msg_5 m hk hn h hs
  · exact msg_6 m hk hn h hs
  · exact msg_7 m hk hn (d.2.1 hk) h hs
  · exact msg_8 m hk hn (d.2.2.1 (.inl hk)) h hs
  · exact msg_9 m hk hn (d.2.2.1 (.inr (.inl hk))) h hs
  · exact msg_10 m hk hn (d.2.2.1 (.inr (.inr hk))) h hs
  · exact msg_11 m hk hn (d.2.2.2.1 hk) h hs
  · exact msg_12 m hk hn (d.2.2.2.2.1 hk) (f.1 hk) h hs
  · exact msg_13 m hk hn h hs
  · exact msg_14 m hk hn h hs
  · exact msg_15 m hk hn h hs
  · have e := Mg.more16 hk hm
    exact msg_16 m hk hn (f.2.1 hk).1 e.1 (f.2.1 hk).2.1 e.2.1 e.2.2 (f.2.1 hk).2.2 h hs
  · exact msg_17 m hk hn (d.2.2.2.2.2 hk) (f.2.2 hk) h hs
  · have e := Mg.more18 hk hm
    exact msg_18 m hk hn e.1 e.2 h hs
theorem Gr.atEnd {w : World} {b : Nat} {t : ByteArray} (h : Gr w b t []) : Rst w b t t.size 0 := by
  obtain ⟨n, h1, h2, h3⟩ := h
  have hl : t.data.toList.length = t.size := by simp
  have := List.drop_eq_nil_iff.1 h2
  have e : n = t.size := by omega
  rw [e] at h3
  exact h3
theorem cmd_full (k : Int) (h : 1 ≤ k ∧ k ≤ 18) : (cmd k).toList.isEmpty = false := by
  obtain ⟨n, rfl⟩ := Int.eq_ofNat_of_zero_le (show 0 ≤ k by omega)
  rw [cmd_in n (by omega) (by omega)]
  have : n = 1 ∨ n = 2 ∨ n = 3 ∨ n = 4 ∨ n = 5 ∨ n = 6 ∨ n = 7 ∨ n = 8 ∨ n = 9 ∨ n = 10 ∨ n = 11 ∨ n = 12 ∨ n = 13 ∨ n = 14 ∨ n = 15 ∨ n = 16 ∨ n = 17 ∨ n = 18 := by omega
  rcases this with rfl | rfl | rfl | rfl | rfl | rfl | rfl | rfl | rfl | rfl | rfl | rfl | rfl | rfl | rfl | rfl | rfl | rfl <;> decide +kernel
section
set_option maxRecDepth 10000
set_option maxHeartbeats 4000000
theorem decode_on (m : Mg) (he : m.encE = 0) (ht : -9223372036854775808 ≤ m.time ∧ m.time ≤ 9223372036854775807) (s : ByteArray) (hse : s.data.toList = m.pay) (w : World) : Calls Tryz.prog 11 #[.int .i64 m.kind, .string s] w fun e w' => ∃ v', e = .returned (.tuple #[.agg (m.cells v').toArray, .int .i64 0, .int .i64 0]) ∧ ML w' v' m ∧ Below w.heap.size w w' := by
  have hk := (Mg.enc0 he).1
  have hp := (Mg.enc0 he).2.2.2.2
  have hsz : s.size ≤ 16384 := by
    have hl : s.data.toList.length = s.size := by simp
    rw [hse] at hl
    omega
  have hs : s.size ≤ maxLen := by unfold maxLen; omega
  have HM : Hid (∀ W b, Gr W b s m.pay → Calls Tryz.prog 32 #[.agg #[.pointer (some ⟨b, 0, none⟩), .string s], .int .i64 m.kind] W fun e w' => ∃ v', e = .returned (.agg (m.cells v').toArray) ∧ Gr w' b s [] ∧ (∀ W', Rfk (fun j => j < W.heap.size) w' W' → ML W' v' m) ∧ Rfr b W w') := fun W b h => message_on m he ht h hs
  have HE : Hid (∀ W b, Gr W b s [] → Calls Tryz.prog 33 #[.pointer (some ⟨b, 0, none⟩)] W fun e w' => e = .returned (.int .i64 0) ∧ ∃ n, w' = W.drewN n) := fun W b h => rEnd_ok h.atEnd hs
  have HC := hide (fun W => command_any m.kind W)
  have hcm := cmd_full m.kind hk
  have hl : ¬ ((s.size : Int) > 16384) := by omega
  have HZm := hide (zM.size nil8)
  have HZ := hide (fun v => m.size v)
  have HG : Hid (∀ W b, Rst W b s 0 0 → Gr W b s m.pay) := fun W b r => ⟨0, Nat.zero_le _, by rw [List.drop_zero]; exact hse, r⟩
  have A0 := AM
  have e4 := heap_alloc_last w (.cells (zM.cells nil8).toArray 38)
  have B4 := hide ((Below.refl w.heap.size w).alloc (Nat.le_refl _) (.cells (zM.cells nil8).toArray 38))
  have R4 := hide e4
  clear e4 he ht hse hk hp hsz hs
  generalize hZ : (zM.cells nil8).toArray = Z at *
  clear hZ
  generalize cmd m.kind = cm at *
  generalize hkk : m.kind = kk at *
  clear hkk
  go_enter Tryz.func11, Tryz.ntmps11
  go_upto_region 5 with (first | (go_at_call 13; refine (HC.out _).mono ?_; rintro e w1 ⟨rfl, rfl⟩) | (with_reducible refine at_list ?_; refine wpList_allocA A0 rfl rfl ?_))
  clear HC hcm
  generalize w.alloc (.cells Z 38) = W0 at *
  have e5 := heap_alloc_last W0 (.cells #[.string s, .int .i64 0, .int .i64 0] 125)
  have e7 := heap_alloc_last (W0.alloc (.cells #[.string s, .int .i64 0, .int .i64 0] 125)) (.cells #[.pointer (some ⟨W0.heap.size, 0, none⟩), .string s] 85)
  have hsz : (W0.alloc (.cells #[.string s, .int .i64 0, .int .i64 0] 125)).heap.size = W0.heap.size + 1 := by simp
  rw [hsz] at e7
  have R5 : Hid (Rst ((W0.alloc (.cells #[.string s, .int .i64 0, .int .i64 0] 125)).alloc (.cells #[.pointer (some ⟨W0.heap.size, 0, none⟩), .string s] 85)) W0.heap.size s 0 0) := (Below.heap_alloc _ _ _ (lt_heap e5)).trans e5
  have b7 : Below W0.heap.size W0 ((W0.alloc (.cells #[.string s, .int .i64 0, .int .i64 0] 125)).alloc (.cells #[.pointer (some ⟨W0.heap.size, 0, none⟩), .string s] 85)) := ((Below.refl _ _).alloc (Nat.le_refl _) _).alloc (by simp) _
  have B7 := hide b7
  have R7 := hide e7
  clear e5 e7 b7 hl
  go_upto_region 6 with (first | (go_at_call 31; refine (newReader_any s _).mono ?_; rintro e w1 ⟨rfl, rfl⟩) | (with_reducible refine at_list ?_; first | refine wpList_allocA APa rfl rfl ?_ | refine wpList_store_newA APa rfl _ _ rfl _ rfl #[.pointer (some ⟨W0.heap.size, 0, none⟩), .string s] rfl rfl rfl rfl ?_))
  try rw [hsz]
  clear hsz
  generalize (W0.alloc (.cells #[.string s, .int .i64 0, .int .i64 0] 125)).alloc (.cells #[.pointer (some ⟨W0.heap.size, 0, none⟩), .string s] 85) = W1 at *
  go_upto_region 7 with (first | (go_at_call 32; refine (HM.out _ _ (HG.out _ _ R5.out)).mono ?_; rintro e W2 ⟨v2, rfl, r2, l2, f2⟩; have R2 := hide r2; have L2 := hide l2; have F2 := hide f2; have HO := hide (m.one _ (l2 _ (Rfk.refl _ _)).ok); have HZv := hide (HZ.out v2); clear r2 f2 l2; generalize hD : (m.cells v2).toArray = D at *; have HD := hide hD; clear hD) | (with_reducible refine at_list ?_; first | refine wpList_loadS APa _ rfl (W0.heap.size + 1) rfl #[.pointer (some ⟨W0.heap.size, 0, none⟩), .string s] rfl 85 R7.out rfl ?_ | refine wpList_allocA A0 rfl rfl ?_ | refine wpList_store_newA A0 rfl _ _ rfl _ rfl D HZv.out HO.out rfl rfl ?_))
  have r8 := heap_alloc_last W2 (.cells D 38)
  have b8 : Below W2.heap.size W2 (W2.alloc (.cells D 38)) := (Below.refl _ _).alloc (Nat.le_refl _) _
  have R9 := hide (R2.out.below b8)
  have L9 : Hid (∀ W', Rfk (fun j => j < W1.heap.size) (W2.alloc (.cells D 38)) W' → ML W' v2 m) := fun W' f => L2.out W' ((Rfk.below b8).trans f)
  have LT := hide (And.intro (lt_heap R4.out) B7.out.size)
  have R8 := hide r8
  have q7 : (W2.alloc (.cells D 38)).heap[W0.heap.size + 1]? = some (.cells #[.pointer (some ⟨W0.heap.size, 0, none⟩), .string s] 85 (0, 0)) := by
    have h2 := (F2.out.block _ (lt_heap R7.out) (by omega)).trans R7.out
    exact (b8.block _ (lt_heap h2)).trans h2
  have cp : (W2.alloc (.cells D 38)).cell? ⟨W0.heap.size + 1, 0, none⟩ = some (.pointer (some ⟨W0.heap.size, 0, none⟩)) := by rw [cell_of_row _ _ 0 _ _ _ q7]; rfl
  have Q4 : Hid ((W2.alloc (.cells D 38)).heap[w.heap.size]? = some (.cells Z 38 (0, 0))) := by
    have h1 := (B7.out.block _ (lt_heap R4.out)).trans R4.out
    have h2 := (F2.out.block _ (lt_heap h1) (by have := lt_heap R4.out; omega)).trans h1
    exact (b8.block _ (lt_heap h2)).trans h2
  have Q0 : Hid (Below w.heap.size w (W2.alloc (.cells D 38))) := by
    have h1 := below_next B4.out B7.out
    exact below_next (h1.trans (F2.out.to_below B4.out.size (Nat.le_trans B4.out.size B7.out.size))) b8
  clear q7 b8 r8 R2 L2 F2 R5 R4 B4 B7 R7 HM HG HZ
  generalize W2.heap.size = g8 at *
  generalize W2.alloc (.cells D 38) = W3 at *
  go_upto_region 10 with (go_at_call 33; refine (HE.out _ _ R9.out).mono ?_; rintro e W4 ⟨rfl, nn, rfl⟩; have S8 : Hid ((W3.drewN nn).heap[g8]? = some (.cells D 38 (0, 0))) := R8.out; have S4 : Hid ((W3.drewN nn).heap[w.heap.size]? = some (.cells Z 38 (0, 0))) := Q4.out; have S0 := hide (below_drewN Q0.out nn); have LD : Hid (∀ W', Rfk (fun j => j < W1.heap.size) (W3.drewN nn) W' → ML W' v2 m) := (fun W' f => L9.out W' ((show Rfk _ W3 (W3.drewN nn) from ⟨rfl, rfl, rfl, Nat.le_refl _, fun _ _ _ => rfl⟩).trans f)))
  generalize W3.drewN nn = W4 at *
  have FF := hide (setRow_heap W4 w.heap.size _ D _ _ S4.out)
  have BF := hide (below_setRow S0.out (Nat.le_refl _) D)
  have LF := hide (LD.out (W4.setRow w.heap.size D) ⟨rfl, rfl, rfl, by simp, fun k hk hn => setRow_other _ _ _ _ (fun e => hn (by have := LT.out; omega))⟩)
  go_wp2_with ((with_reducible refine at_list ?_); first | refine wpList_loadS A0 _ rfl g8 rfl D HZv.out 38 S8.out rfl ?_ | refine wpList_storeA A0 rfl _ _ rfl w.heap.size D HZv.out HO.out rfl rfl Z HZm.out 38 S4.out ?_)
  refine bodyPost_ret (resA3 A0 rfl _ _ _ _ D HZv.out rfl FF.out _ rfl _ rfl) rfl ?_
  exact ⟨v2, by rw [HD.out]; rfl, LF.out, BF.out⟩
end
end Go.Proofs.YtkoidjaaojmcnaaGreat
namespace Go.Proofs.YtkoidjaaojmcnaaGreat
open Go.RowKit
open Go.Deep
theorem low7 : (UInt64.ofNat (leN (txt (lowL (UInt64.toNat 7) 8)).data.toList)).toNat = 7 := by decide +kernel
theorem low7s : (txt (lowL (UInt64.toNat 7) 8)).size = 8 := by decide +kernel
section
set_option maxRecDepth 10000
set_option maxHeartbeats 4000000
theorem awake9 (w : World) : Calls Tryz.prog 7 #[] w fun e w' => e = .returned (.bool true) ∧ Below w.heap.size w w' := by
  have HN : Hid (∀ W, Calls Tryz.prog 28 #[.int .i64 5, .int .u64 7] W fun e w' => e = .returned (.tuple #[.agg ((bareM 5 7).cells nil8).toArray, .int .i64 0]) ∧ Below W.heap.size W w') := fun W => nonced_yes 5 7 (.inl rfl) W
  have HE := hide (fun W => encode_ping 7 W)
  have HD := hide (fun W => decode_ping (txt (lowL (UInt64.toNat 7) 8)) low7s W)
  have h8 : ((txt (lowL (UInt64.toNat 7) 8)).size : Int) = 8 := by rw [low7s]; rfl
  have h7 := low7
  have HO := hide ((bareM 5 7).one nil8 nil8_ok)
  have HZ := hide ((bareM 5 7).size nil8)
  generalize UInt64.ofNat (leN (txt (lowL (UInt64.toNat 7) 8)).data.toList) = n at *
  have HO2 := hide ((bareM 5 n).one nil8 nil8_ok)
  have HZ2 := hide ((bareM 5 n).size nil8)
  have H3 : Hid (((bareM 5 n).cells nil8).toArray[3]? = some (.int .u64 7)) := by
    show _ = _
    rw [show ((bareM 5 n).cells nil8).toArray[3]? = some (.int .u64 (n.toNat : Int)) from rfl, h7]
    rfl
  generalize txt (lowL (UInt64.toNat 7) 8) = T at *
  generalize ((bareM 5 7).cells nil8).toArray = C at *
  generalize ((bareM 5 n).cells nil8).toArray = D at *
  clear h7
  go_enter Tryz.func7, Tryz.ntmps7
  go_upto_region 2 with (first | (go_at_call 28; refine (HN.out _).mono ?_; rintro e W1 ⟨rfl, be⟩; have B1 := hide be; clear be) | (with_reducible refine at_list ?_; first | refine wpList_allocA AM rfl rfl ?_ | refine wpList_store_newA AM rfl _ _ rfl _ rfl C HZ.out HO.out rfl rfl ?_))
  have R2 := hide (heap_alloc_last W1 (.cells C 38))
  have B2 := hide (below_next B1.out ((Below.refl _ _).alloc (Nat.le_refl _) (.cells C 38)))
  generalize W1.alloc (.cells C 38) = W2 at *
  generalize W1.heap.size = g1 at *
  go_upto_region 4 with (first | (go_at_call 4; refine (HE.out _).mono ?_; rintro e W3 ⟨rfl, be⟩; have B3 := hide (below_next B2.out be); clear be) | (go_at_call 11; refine (HD.out _).mono ?_; rintro e W4 ⟨rfl, be⟩; have B4 := hide (below_next B3.out be); clear be) | (with_reducible refine at_list ?_; first | refine wpList_loadS AM _ rfl g1 rfl C HZ.out 38 R2.out rfl ?_ | refine wpList_allocA AM rfl rfl ?_ | refine wpList_store_newA AM rfl _ _ rfl _ rfl D HZ2.out HO2.out rfl rfl ?_))
  have B5 := hide (below_next B4.out ((Below.refl _ _).alloc (Nat.le_refl _) (.cells D 38)))
  have c3 : (W4.alloc (.cells D 38)).cell? ⟨W4.heap.size, 3, none⟩ = some (.int .u64 7) := by rw [cell_of_row _ _ 3 _ _ _ (heap_alloc_last W4 _)]; exact H3.out
  generalize W4.alloc (.cells D 38) = W5 at *
  go_wp2
  go_ret
  exact ⟨rfl, B5.out⟩
end
end Go.Proofs.YtkoidjaaojmcnaaGreat
