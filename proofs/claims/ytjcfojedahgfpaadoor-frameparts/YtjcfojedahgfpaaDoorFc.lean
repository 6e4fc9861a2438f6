/- Frames: the contracts of Command, take, lay and Sum, of the program and of the document. -/
import Derived.Test.YtjcfojedahgfpaaDoorFb
import Derived.Test.YtjcfojedahgfpaaDoorL2
import Derived.Test.YtjcfojedahgfpaaDoorFs
namespace Go.Proofs.YtjcfojedahgfpaaDoor
open Go.RowKit
open Go.Deep
theorem okCmd_no (s : ByteArray) (k : Nat) (h : k < s.size) (hb : okB s[k] = false) : okCmd s.data.toList = false := by
  cases ho : okCmd s.data.toList with
  | false => rfl
  | true =>
    have := okCmd_all ho
    rw [List.all_eq_true] at this
    have h2 := this s[k] (List.mem_iff_getElem.2 ⟨k, by simpa using h, rfl⟩)
    rw [hb] at h2
    cases h2
theorem okCmd_yes (s : ByteArray) (h : ∀ j (hj : j < s.size), okB s[j] = true) : okCmd s.data.toList = (decide ((1 : Int) ≤ s.size) && decide ((s.size : Int) ≤ 12)) := by
  have e : s.data.toList.all okB = true := by
    rw [List.all_eq_true]
    intro x hx
    obtain ⟨j, hj, rfl⟩ := List.mem_iff_getElem.1 hx
    exact h j (by simpa using hj)
  have e2 : s.data.toList.length = s.size := by simp
  rw [okCmd, e, e2, Bool.true_and]
  congr 1
  · exact decide_eq_decide.2 (by omega)
  · exact decide_eq_decide.2 (by omega)
theorem orS (x y i m : Nat) (hm : m = 2 ^ i) (hx : x < m) (hb : m * y + x < 4294967296) : bits .or .u32 (x : Int) ((y * m : Nat) : Int) = ((x + m * y : Nat) : Int) := by
  subst hm
  rw [or_nat32 _ _ (by omega) (by rw [Nat.mul_comm]; omega), Nat.or_comm, Nat.mul_comm y, ← Nat.two_pow_add_eq_or_of_lt hx, Nat.add_comm]
theorem take4 (a b c d : UInt8) : bits BinOp.or IntKind.u32 (bits BinOp.or IntKind.u32 (bits BinOp.or IntKind.u32 ((a.toNat : Int) % 4294967296) ((b.toNat : Int) % 4294967296 * 256 % 4294967296)) ((c.toNat : Int) % 4294967296 * 65536 % 4294967296)) ((d.toNat : Int) % 4294967296 * 16777216 % 4294967296) = ((leN [a, b, c, d] : Nat) : Int) := by
  have ha := a.toNat_lt
  have hb := b.toNat_lt
  have hc := c.toNat_lt
  have hd := d.toNat_lt
  rw [show (a.toNat : Int) % 4294967296 = (a.toNat : Int) by omega, show (b.toNat : Int) % 4294967296 * 256 % 4294967296 = ((b.toNat * 256 : Nat) : Int) by omega, show (c.toNat : Int) % 4294967296 * 65536 % 4294967296 = ((c.toNat * 65536 : Nat) : Int) by omega, show (d.toNat : Int) % 4294967296 * 16777216 % 4294967296 = ((d.toNat * 16777216 : Nat) : Int) by omega]
  rw [orS a.toNat b.toNat 8 256 (by decide) (by omega) (by omega), orS _ c.toNat 16 65536 (by decide) (by omega) (by omega), orS _ d.toNat 24 16777216 (by decide) (by omega) (by omega)]
  simp only [leN]
  omega
theorem list4 (s : ByteArray) (hs : s.size = 4) : s.data.toList = [s[0], s[1], s[2], s[3]] := by
  apply List.ext_getElem
  · simp [hs]
  · intro i h1 h2
    have : i = 0 ∨ i = 1 ∨ i = 2 ∨ i = 3 := by simp at h2; omega
    rcases this with rfl | rfl | rfl | rfl <;> rfl
section
set_option maxRecDepth 10000
set_option maxHeartbeats 1000000
theorem command_any (s : ByteArray) (w : World) (hs : s.size ≤ maxLen) : Calls Tryd.prog 9 #[.string s] w fun e w' => e = .returned (.bool (okCmd s.data.toList)) ∧ w' = w := by
  unfold maxLen at hs
  generalize hO : okCmd s.data.toList = O
  have HO := hide hO
  clear hO
  go_enter Tryd.func9, Tryd.ntmps9
  go_wp2
  go_loop [6] (fun i => ∃ k : Nat, k ≤ s.size ∧ i = .int .i64 k ∧ Hid (∀ j (hj : j < s.size), j < k → okB s[j] = true)) (fun i => (s.size - intOf i).toNat)
  case atStart => exact ⟨0, Nat.zero_le _, rfl, fun j hj h => absurd h (Nat.not_lt_zero _)⟩
  case round =>
    obtain ⟨k, hk, rfl, hb⟩ := hrel
    by_cases hlt : k < s.size
    · have h1 : (k : Int) < s.size := by omega
      by_cases h33 : (s[k].toNat : Int) < 33
      · have HN := hide (HO.out.symm.trans (okCmd_no s k hlt (by simp [okB]; omega)))
        go_wp2
        go_ret
        exact ⟨by rw [HN.out]; rfl, rfl⟩
      · by_cases h126 : (126 : Int) < s[k].toNat
        · have HN := hide (HO.out.symm.trans (okCmd_no s k hlt (by simp [okB]; omega)))
          go_wp2
          go_ret
          exact ⟨by rw [HN.out]; rfl, rfl⟩
        · have HY : Hid (okB s[k] = true) := by simp [Hid, okB]; omega
          go_wp2
          refine ⟨⟨k + 1, by omega, by go_num, fun j hj hjk => ?_⟩, by simp [intOf]; omega⟩
          by_cases e : j = k
          · subst e; exact HY.out
          · exact hb.out j hj (by omega)
    · have h1 : ¬ (k : Int) < s.size := by omega
      have HY := hide (HO.out.symm.trans (okCmd_yes s (fun j hj => hb.out j hj (by omega))))
      by_cases h0 : (1 : Int) ≤ s.size
      · go_wp2
        go_ret
        refine ⟨?_, rfl⟩
        rw [HY.out]
        simp
        omega
      · go_wp2
        go_ret
        refine ⟨?_, rfl⟩
        rw [HY.out]
        simp
        omega
theorem rcommand_any (s : ByteArray) (w : World) (hs : s.size ≤ maxLen) : Calls Tryd.prog 10 #[.string s] w fun e w' => e = .returned (.bool (okCmd s.data.toList)) ∧ w' = w := by
  unfold maxLen at hs
  generalize hO : okCmd s.data.toList = O
  have HO := hide hO
  clear hO
  go_enter Tryd.func10, Tryd.ntmps10
  go_wp2
  go_loop [3] (fun i => ∃ k : Nat, k ≤ s.size ∧ i = .int .i64 k ∧ Hid (∀ j (hj : j < s.size), j < k → okB s[j] = true)) (fun i => (s.size - intOf i).toNat)
  case atStart => exact ⟨0, Nat.zero_le _, rfl, fun j hj h => absurd h (Nat.not_lt_zero _)⟩
  case round =>
    obtain ⟨k, hk, rfl, hb⟩ := hrel
    by_cases hlt : k < s.size
    · have h1 : (k : Int) < s.size := by omega
      by_cases h33 : (s[k].toNat : Int) < 33
      · have HN := hide (HO.out.symm.trans (okCmd_no s k hlt (by simp [okB]; omega)))
        go_wp2
        go_ret
        exact ⟨by rw [HN.out]; rfl, rfl⟩
      · by_cases h126 : (126 : Int) < s[k].toNat
        · have HN := hide (HO.out.symm.trans (okCmd_no s k hlt (by simp [okB]; omega)))
          go_wp2
          go_ret
          exact ⟨by rw [HN.out]; rfl, rfl⟩
        · have HY : Hid (okB s[k] = true) := by simp [Hid, okB]; omega
          go_wp2
          refine ⟨⟨k + 1, by omega, by go_num, fun j hj hjk => ?_⟩, by simp [intOf]; omega⟩
          by_cases e : j = k
          · subst e; exact HY.out
          · exact hb.out j hj (by omega)
    · have h1 : ¬ (k : Int) < s.size := by omega
      have HY := hide (HO.out.symm.trans (okCmd_yes s (fun j hj => hb.out j hj (by omega))))
      by_cases h0 : (1 : Int) ≤ s.size
      · go_wp2
        go_ret
        refine ⟨?_, rfl⟩
        rw [HY.out]
        simp
        omega
      · go_wp2
        go_ret
        refine ⟨?_, rfl⟩
        rw [HY.out]
        simp
        omega
theorem rtake_any (s : ByteArray) (w : World) (hs : s.size = 4) : Calls Tryd.prog 33 #[.string s] w fun e w' => e = .returned (.int .u32 (leN s.data.toList)) ∧ ∃ n, w' = w.drewN n := by
  go_enter Tryd.func33, Tryd.ntmps33
  go_wp2
  go_quiet (fail)
  go_wp2
  go_ret
  refine ⟨?_, _, rfl⟩
  rw [list4 s hs, ← take4]
  rfl
theorem lowL4 (n : Nat) : lowL n 4 = [UInt8.ofNat (n % 256), UInt8.ofNat (n / 256 % 256), UInt8.ofNat (n / 65536 % 256), UInt8.ofNat (n / 16777216 % 256)] := by
  simp only [lowL, Nat.div_div_eq_div_mul]
theorem conv4 (W : World) (n : Nat) (hn : n < 4294967296) : (convert 63 9 (.slice (some ⟨W.heap.size, 0, none⟩) 4 4)).run Tryd.prog (W.alloc (.cells #[.int .u8 ((n : Int) % 256), .int .u8 ((n : Int) / 256 % 256), .int .u8 ((n : Int) / 65536 % 256), .int .u8 ((n : Int) / 16777216)] 5)) = .ok (.string (txt (lowL n 4))) (W.alloc (.cells #[.int .u8 ((n : Int) % 256), .int .u8 ((n : Int) / 256 % 256), .int .u8 ((n : Int) / 65536 % 256), .int .u8 ((n : Int) / 16777216)] 5)) := by
  have hg : (W.alloc (.cells #[.int .u8 ((n : Int) % 256), .int .u8 ((n : Int) / 256 % 256), .int .u8 ((n : Int) / 65536 % 256), .int .u8 ((n : Int) / 16777216)] 5)).heap[W.heap.size]? = some (.cells (hc (lowL n 4)) 5 (0, 0)) := by
    rw [heap_alloc_last, lowL4]
    simp only [hc, cellsL, List.map_cons, List.map_nil, UInt8.toNat_ofNat']
    congr 2
    simp
    omega
  generalize W.alloc (.cells #[.int .u8 ((n : Int) % 256), .int .u8 ((n : Int) / 256 % 256), .int .u8 ((n : Int) / 65536 % 256), .int .u8 ((n : Int) / 16777216)] 5) = W1 at *
  have := run_convert_bytes_back (P := Tryd.prog) W1 63 9 5 ⟨W.heap.size, 0, none⟩ 4 (lowL n 4) Tryd.underlying63 Tryd.underlying5 Tryd.underlying9 (fun j hj => by
    have hadd : (⟨W.heap.size, 0, none⟩ : Addr).add j = ⟨W.heap.size, j, none⟩ := by unfold Addr.add; split <;> simp_all
    rw [hadd, cell_of_row W1 _ j _ _ (0, 0) hg]
    simp [hc, cellsL, hj])
  rwa [lowL_len] at this
theorem rlay_any (n : Nat) (hn : n < 4294967296) (w : World) : Calls Tryd.prog 28 #[.int .u32 n] w fun e w' => e = .returned (.string (txt (lowL n 4))) ∧ Below w.heap.size w w' := by
  have hcv := conv4 w n hn
  go_enter Tryd.func28, Tryd.ntmps28
  go_wp2
  go_ret
  exact ⟨rfl, (Below.refl _ _).alloc (Nat.le_refl _) _⟩
/-- The first four of an array's bytes as a text. -/
theorem conv_four (w : World) (g : Nat) (l : List UInt8) (hl : l.length = 32) (t : TypeId) (hg : w.heap[g]? = some (.cells (hc l) t (0, 0))) :
    (convert 63 9 (.slice (some ⟨g, 0, none⟩) 4 32)).run Tryd.prog w = .ok (.string (txt (l.take 4))) w := by
  have := run_convert_bytes_back (P := Tryd.prog) w 63 9 5 ⟨g, 0, none⟩ 32 (l.take 4) Tryd.underlying63 Tryd.underlying5 Tryd.underlying9 (fun j hj => by
    have hadd : (⟨g, 0, none⟩ : Addr).add j = ⟨g, j, none⟩ := by unfold Addr.add; split <;> simp_all
    rw [List.length_take, hl] at hj
    rw [hadd, cell_of_row w g j _ t (0, 0) hg]
    simp [hc, cellsL]
    exact ⟨l[j], List.getElem?_eq_getElem (by omega), rfl⟩)
  rwa [List.length_take, hl] at this
theorem rst_new2 (w1 : World) (A : Obj) (s : ByteArray) : Rst ((w1.alloc A).alloc (.cells #[.string s, .int .i64 0, .int .i64 0] 94)) (w1.heap.size + 1) s 0 0 := by
  have := heap_alloc_last (w1.alloc A) (.cells #[.string s, .int .i64 0, .int .i64 0] 94)
  rwa [show (w1.alloc A).heap.size = w1.heap.size + 1 by simp] at this
theorem dig2_len (p : List UInt8) : (dig2 p).length = 32 := digest_len _
theorem txt_list (l : List UInt8) : (txt l).data.toList = l := rfl
theorem txt_size (l : List UInt8) : (txt l).size = l.length := by show l.toArray.size = _; simp
theorem rsum8_any (s : ByteArray) (hs : s.size < 2305843009213693000) (w : World) : Calls Tryd.prog 12 #[.string s] w fun e w' => e = .returned (.int .u32 (sumN s.data.toList)) ∧ Below w.heap.size w w' := by
  have HT := hide fun W => rtwice_any s hs W
  have hdl := dig2_len s.data.toList
  rw [show digest (digest s.data.toList) = dig2 s.data.toList from rfl] at HT
  unfold sumN
  generalize dig2 s.data.toList = D at *
  have hz : (txt (D.take 4)).size = 4 := by rw [txt_size, List.length_take]; omega
  have HK := hide fun W => rtake_any (txt (D.take 4)) W hz
  rw [txt_list] at HK
  clear hz
  go_enter Tryd.func12, Tryd.ntmps12
  go_wp2_with (first | (go_at_call 32; refine (HT.out _).mono ?_; rintro e w1 ⟨rfl, b1⟩; have hcv := conv_four (w1.alloc (.cells (hc D) 58)) w1.heap.size D hdl 58 (heap_alloc_last _ _)) | refine wpList_allocA A24 rfl rfl ?_ | refine wpList_store_newA A24 rfl _ _ rfl _ rfl (hc D) (by rw [hc_size, hdl]) (hc_one _) rfl rfl ?_ | (go_at_call 33; refine (HK.out _).mono ?_; rintro e w2 ⟨rfl, nq, rfl⟩))
  go_ret
  exact ⟨rfl, below_drewN (b1.alloc b1.size _) _⟩
theorem fsum_any (s : ByteArray) (hs : s.size < 2305843009213693000) (w : World) (hK : Kg w) : Calls Tryd.prog 11 #[.string s] w fun e w' => e = .returned (.int .u32 (sumN s.data.toList)) ∧ Below w.heap.size w w' := by
  have HT := hide fun W hW => twice_any s hs W hW
  have hdl := dig2_len s.data.toList
  rw [show digest (digest s.data.toList) = dig2 s.data.toList from rfl] at HT
  unfold sumN
  generalize dig2 s.data.toList = D at *
  have KW := hide hK
  clear hK
  have HU : Hid (∀ b W, Rst W b ⟨D.toArray⟩ 0 0 → Calls Tryd.prog 31 #[.pointer (some ⟨b, 0, none⟩)] W fun e w' => e = .returned (.int .u32 (leN (D.take 4))) ∧ Rfr b W w') := by
    intro b W h
    have hz : (⟨D.toArray⟩ : ByteArray).size = 32 := by show D.toArray.size = 32; simp [hdl]
    have hr : rtake (⟨D.toArray⟩ : ByteArray) 0 0 4 = (4, 0, (⟨D.toArray⟩ : ByteArray).extract 0 4) := by
      unfold rtake
      rw [if_neg (by simp), if_neg (by simp), if_neg (by rw [hz]; simp)]
      rfl
    have he : ((⟨D.toArray⟩ : ByteArray).extract 0 4).data.toList = D.take 4 := by simp
    refine (rU32 b ⟨D.toArray⟩ W 0 0 h (by rw [hz]; unfold maxLen; decide) (by omega) (by omega)).mono ?_
    rintro e w' ⟨rfl, -, h3⟩
    rw [hr]
    exact ⟨by rw [he], h3⟩
  go_enter Tryd.func11, Tryd.ntmps11
  go_wp2_with (first | (go_at_call 29; refine (HT.out _ KW.out).mono ?_; rintro e w1 ⟨rfl, b1⟩; have hcv := conv_row (w1.alloc (.cells (hc D) 59)) w1.heap.size D hdl 59 (heap_alloc_last _ _); have R2 : Hid (Rst ((w1.alloc (.cells (hc D) 59)).alloc (.cells #[.string ⟨D.toArray⟩, .int .i64 0, .int .i64 0] 94)) (w1.heap.size + 1) ⟨D.toArray⟩ 0 0) := rst_new2 _ _ _) | refine wpList_allocA A25 rfl rfl ?_ | refine wpList_store_newA A25 rfl _ _ rfl _ rfl (hc D) (by rw [hc_size, hdl]) (hc_one _) rfl rfl ?_ | (go_at_call 30; refine (newReader_any _ _).mono ?_; rintro e w2 ⟨rfl, rfl⟩) | (go_at_call 31; refine (HU.out _ _ R2.out).mono ?_; rintro e w3 ⟨rfl, f3⟩))
  go_ret
  have b2 := b1.alloc b1.size (.cells (hc D) 59)
  have b3 := b2.alloc b2.size (.cells #[.string ⟨D.toArray⟩, .int .i64 0, .int .i64 0] 94)
  exact ⟨rfl, b3.trans (f3.to_below (by have := b1.size; omega) b3.size)⟩
end
end Go.Proofs.YtjcfojedahgfpaaDoor
