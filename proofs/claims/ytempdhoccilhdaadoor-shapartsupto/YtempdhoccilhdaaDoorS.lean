/- The law ShaChains: its walk. -/
import Derived.Test.YtempdhoccilhdaaDoorO0
import Derived.Test.YtempdhoccilhdaaDoorL2
namespace Go.Proofs.YtempdhoccilhdaaDoor
open Go.RowKit
open Go.Deep
/-- A text of 64 bytes, turned into a slice of bytes of its own. -/
theorem conv_str (W : World) (x : ByteArray) (hx : x.size = 64) : ∃ c W1, (convert 9 46 (.string x)).run Tryd.prog W = .ok (.slice (some ⟨W.heap.size, 0, none⟩) 64 c) W1 ∧ Below W.heap.size W W1 ∧
    (ld35 (.pointer (some ⟨W.heap.size, 0, none⟩))).run Tryd.prog W1 = .ok (.agg (hc x.data.toList)) W1 := by
  have h := run_bytes_of_string (P := Tryd.prog) W 9 46 5 x Tryd.underlying9 Tryd.underlying46 Tryd.underlying5
  rw [hx] at h
  refine ⟨_, _, h, (Below.refl _ _).drew.alloc (by simp) _, ?_⟩
  refine run_loadAt_mid _ W.heap.size 0 35 (cellsL x.data.toList) _ ?_ Tryd.underlying35 rfl (by rw [A35.info, cellsL_len]; simp [hx])
  intro j v hv
  have e := heap_alloc_last W.drew (.cells (bytesRow x (grownCap W 64 0 5)) 5 ((bytesRow x (grownCap W 64 0 5)).size, (bytesRow x (grownCap W 64 0 5)).size + 1))
  rw [Nat.zero_add]
  refine (cell_of_row _ _ j _ _ _ e).trans ?_
  have hj : j < x.size := by
    rcases Nat.lt_or_ge j x.size with h' | h'
    · exact h'
    · rw [List.getElem?_eq_none (by rw [cellsL_len]; simpa using h')] at hv; cases hv
  rw [← hv, bytesRow, Array.getElem?_append_left (by simpa using hj)]
  simp [cellsL]
theorem cut_list (x : ByteArray) (a b : Nat) : (x.extract a b).data.toList = (x.data.toList.drop a).take (b - a) := by
  rw [ByteArray.data_extract, Array.toList_extract]
/-- A word out of four bytes. -/
theorem word_back (s : St) (i : Nat) : bits .or .u32 (bits .or .u32 (bits .or .u32 (((sb s (4 * i)).toNat : Int) % 4294967296 * 16777216 % 4294967296) (((sb s (4 * i + 1)).toNat : Int) % 4294967296 * 65536 % 4294967296)) (((sb s (4 * i + 2)).toNat : Int) % 4294967296 * 256 % 4294967296)) (((sb s (4 * i + 3)).toNat : Int) % 4294967296) = ((s.at i).toNat : Int) := by
  have hx := (s.at i).toNat_lt
  have q : ∀ j, j < 4 → (sb s (4 * i + j)).toNat = (s.at i).toNat / 2 ^ (24 - 8 * j) % 256 := by
    intro j hj
    rw [sb, show (4 * i + j) / 4 = i by omega, show (4 * i + j) % 4 = j by omega, wb, UInt8.toNat_ofNat']
  have q0 := q 0 (by omega)
  have q1 := q 1 (by omega)
  have q2 := q 2 (by omega)
  have q3 := q 3 (by omega)
  simp only [Nat.add_zero, Nat.mul_zero, Nat.sub_zero] at q0
  generalize (s.at i).toNat = X at *
  generalize (sb s (4 * i)).toNat = b0 at *
  generalize (sb s (4 * i + 1)).toNat = b1 at *
  generalize (sb s (4 * i + 2)).toNat = b2 at *
  generalize (sb s (4 * i + 3)).toNat = b3 at *
  have e0 : (b0 : Int) % 4294967296 * 16777216 % 4294967296 = (b0 : Int) * 16777216 := by omega
  have e1 : (b1 : Int) % 4294967296 * 65536 % 4294967296 = (b1 : Int) * 65536 := by omega
  have e2 : (b2 : Int) % 4294967296 * 256 % 4294967296 = (b2 : Int) * 256 := by omega
  have e3 : (b3 : Int) % 4294967296 = (b3 : Int) := by omega
  rw [e0, e1, e2, e3, join32 24 ((b0 : Int) * 16777216) ((b1 : Int) * 65536) (by omega) (by omega) (by omega) (by omega) (by omega) (by omega), join32 16 ((b0 : Int) * 16777216 + (b1 : Int) * 65536) ((b2 : Int) * 256) (by omega) (by omega) (by omega) (by omega) (by omega) (by omega), join32 8 ((b0 : Int) * 16777216 + (b1 : Int) * 65536 + (b2 : Int) * 256) (b3 : Int) (by omega) (by omega) (by omega) (by omega) (by omega) (by omega)]
  simp only [show 24 - 8 * 1 = 16 from rfl, show 24 - 8 * 2 = 8 from rfl, show 24 - 8 * 3 = 0 from rfl, Nat.pow_zero, Nat.div_one] at q0 q1 q2 q3
  simp only [show (2 : Nat) ^ 24 = 16777216 from rfl, show (2 : Nat) ^ 16 = 65536 from rfl, show (2 : Nat) ^ 8 = 256 from rfl] at q0 q1 q2
  omega
/-- What is known of the world at the end of ShaChains: where the hash lies. -/
structure Jc (w W : World) (g : Nat) (D : List UInt8) : Prop where
  a : W.heap[g]? = some (.cells (hc D) 25 (0, 0))
  below : Below w.heap.size w W
  kg : Kg W
theorem Jc.next {w W W' : World} {g : Nat} {D : List UInt8} (j : Jc w W g D) (h : Below W.heap.size W W') : Jc w W' g D :=
  ⟨(h.block _ (lt_heap j.a)).trans j.a, j.below.trans (h.mono j.below.size), j.kg.next h⟩
attribute [local go_sem ↓] ld31_eq ld35_eq sv31_eq
section
set_option maxRecDepth 10000
set_option maxHeartbeats 2000000
theorem shaChains_walk (s : ByteArray) (hs : s.size < 2305843009213693000) (w : World) (hK : Kg w) : Calls Tryd.prog 8 #[.string s] w fun e w' => e = .returned (.bool true) ∧ Below w.heap.size w w' := by
  have HA := hide fun W hW => awake_any W hW
  have hpad := hide fun W => pad_any s.size (by omega) W
  have hpl : (⟨(padL s.size).toArray⟩ : ByteArray).size = 9 + padZ s.size := by
    show (padL s.size).toArray.size = _
    rw [List.size_toArray, padL_len]
  have hzl := padZ_lt s.size
  have hsz : (s ++ (⟨(padL s.size).toArray⟩ : ByteArray)).size = s.size + (9 + padZ s.size) := by rw [ByteArray.size_append, hpl]
  have hX : (s ++ (⟨(padL s.size).toArray⟩ : ByteArray)).data.toList = s.data.toList ++ padL s.data.toList.length := by simp
  have hm := pad_whole s.size
  have hfin : stN (s.data.toList ++ padL s.data.toList.length) ((s.data.toList ++ padL s.data.toList.length).length / 64) = fin s.data.toList := rfl
  rw [← hX] at hfin
  have HS := hide fun W hW => sum_any s hs W hW
  have HT := hide fun W hW => twice_any s hs W hW
  have hdl := digest_len s.data.toList
  have hDz : (⟨(digest s.data.toList).toArray⟩ : ByteArray).size = 32 := by show (digest s.data.toList).toArray.size = 32; rw [List.size_toArray, hdl]
  have HSD := hide fun W hW => sum_any ⟨(digest s.data.toList).toArray⟩ (by rw [hDz]; omega) W hW
  rw [show (⟨(digest s.data.toList).toArray⟩ : ByteArray).data.toList = digest s.data.toList from rfl] at HSD
  have hDat : ∀ j, j < 32 → (hc (digest s.data.toList))[j]? = some (.int .u8 ((sb (fin s.data.toList) j).toNat : Int)) := fun j hj => bytes_at (fin s.data.toList) j hj
  have eqf := hide fun W => eqb 25 32 Tryd.underlying25 (digest (digest s.data.toList)) (digest_len _) W
  have hel := digest_len (digest s.data.toList)
  generalize digest (digest s.data.toList) = E at *
  generalize digest s.data.toList = D at *
  generalize fin s.data.toList = ff at *
  have HD := hide hDat
  have H1 := hide fun W => first_any W
  have hw : IntKind.u64.wrap (s.size : Int) = (s.size : Int) := wrapu _ (by omega) (by omega)
  have HK := hide hK
  clear hX hDat hK hDz
  generalize (⟨(padL s.size).toArray⟩ : ByteArray) = P at *
  have m1 : (((s ++ P).size : Int) % 64 != 0) = false := by rw [hsz]; simp; omega
  have m2 : ¬ ((s ++ P).size : Int) - s.size < 9 := by omega
  have m3 : ¬ 72 < ((s ++ P).size : Int) - s.size := by omega
  go_enter Tryd.func8, Tryd.ntmps8
  go_wp2_with (first | (go_at_call 9; refine (HA.out _ HK.out).mono ?_; rintro e w1 ⟨rfl, b1⟩; have B1 := hide b1; clear b1) | (go_at_call 14; refine (hpad.out _).mono ?_; rintro e w2 ⟨rfl, b2⟩; have B2 := hide (B1.out.trans (b2.mono B1.out.size)); clear b2) | (go_at_call 16; refine (H1.out _).mono ?_; rintro e w3 ⟨rfl, b3⟩; have B3 := hide (B2.out.trans (b3.mono B2.out.size)); clear b3) | refine wpList_allocA A31 rfl rfl ?_ | refine wpList_store_newA A31 rfl _ _ rfl _ rfl (uc first.list) rfl (uc_one _) rfl rfl ?_)
  have g3 := hide (heap_alloc_last w3 (.cells (uc first.list) 31))
  have B4 := hide (B3.out.alloc B3.out.size (.cells (uc first.list) 31))
  have hg : w.heap.size ≤ w3.heap.size := B3.out.size
  clear B1 B2 B3 HA hpad H1
  generalize w3.alloc (.cells (uc first.list) 31) = W3 at *
  generalize w3.heap.size = g at *
  generalize hXX : s ++ P = X at *
  have hX2 : X.size % 64 = 0 := by rw [hsz]; exact hm
  have hX3 : X.size < 2305843009213694000 := by omega
  have hXl : X.data.toList.length = X.size := by simp
  have HFF := hide hfin
  clear hsz hpl hXX hfin m1 m2 m3
  go_loopw [5] (fun c wr => ∃ k : Nat, 64 * k ≤ X.size ∧ c = .int .i64 (64 * (k : Int)) ∧ Hid (wr.heap[g]? = some (.cells (uc (stN X.data.toList k).list) 31 (0, 0))) ∧ Hid (Below w.heap.size w wr)) (fun c _ => (X.size - intOf c).toNat)
  case atStart => exact ⟨0, by omega, rfl, g3, B4⟩
  case round =>
    clear g3 B4
    obtain ⟨k, hk, rfl, r1, bb⟩ := hrel
    by_cases hlt : 64 * k < X.size
    · have hlt' : 64 * (k : Int) + 64 ≤ X.size := by omega
      have e1 : (64 * (k : Int)).toNat = 64 * k := by omega
      have e2 : (64 * (k : Int) + 64).toNat = 64 * k + 64 := by omega
      have a0 : (0 : Int) ≤ 64 * k := by omega
      have a1 : 64 * (k : Int) ≤ 64 * k + 64 := by omega
      have q1 : IntKind.i64.wrap (64 * (k : Int) + 64) = 64 * k + 64 := wrapI _ (by omega) (by omega)
      have hxs : (X.extract (64 * k) (64 * k + 64)).size = 64 := by simp; omega
      obtain ⟨c1, W1, hcv, hb1, hld⟩ := conv_str wr.drew (X.extract (64 * k) (64 * k + 64)) hxs
      rw [cut_list, show 64 * k + 64 - 64 * k = 64 by omega] at hld
      have hbl := bk_len X.data.toList k (by omega)
      have HST := hide fun W hW => step_any (stN X.data.toList k) ((X.data.toList.drop (64 * k)).take 64) hbl W hW
      rw [show step (stN X.data.toList k) ((X.data.toList.drop (64 * k)).take 64) = stN X.data.toList (k + 1) from rfl] at HST
      generalize hB : (X.data.toList.drop (64 * k)).take 64 = Bk at *
      generalize hS1 : stN X.data.toList k = S1 at *
      generalize hS2 : stN X.data.toList (k + 1) = S2 at *
      have HS2 := hide hS2
      clear hB hS1 hS2
      have l1 : (ld31 (.pointer (some ⟨g, 0, none⟩))).run Tryd.prog wr.drew = .ok (.agg (uc S1.list)) wr.drew := ld_row A31 rfl (W := wr.drew) r1.out
      have r1' : W1.heap[g]? = some (.cells (uc S1.list) 31 (0, 0)) := (hb1.block g (lt_heap r1.out)).trans r1.out
      have l2 : (ld31 (.pointer (some ⟨g, 0, none⟩))).run Tryd.prog W1 = .ok (.agg (uc S1.list)) W1 := ld_row A31 rfl r1'
      have R1 := hide r1'
      have B1 : Hid (Below w.heap.size w W1) := (bb.out.drew).trans (hb1.mono bb.out.size)
      have K1 := hide (HK.out.next B1.out)
      have har := fun W => run_arrayAt (P := Tryd.prog) W 35 5 64 (some ⟨wr.heap.size, 0, none⟩) 64 c1 Tryd.underlying35 (Nat.le_refl _)
      have hrs : wr.drew.heap.size = wr.heap.size := rfl
      rw [hrs] at hcv hld
      clear hb1 r1' hrs
      go_wp2
      go_region_with (go_at_call 18; refine (HST.out _ K1.out).mono ?_; rintro e w5 ⟨rfl, b5⟩; have p1 := hide ((b5.block _ (lt_heap R1.out)).trans R1.out); have pb := hide (B1.out.trans (b5.mono B1.out.size)); have hsv := sv31_row (c0 := uc S1.list) rfl p1.out S2; clear b5)
      all_goals go_wp2
      all_goals exact ⟨⟨k + 1, by omega, by congr 1, hide (by rw [HS2.out]; exact setRow_heap _ _ _ _ _ _ p1.out), hide (below_setRow pb.out hg _)⟩, by simp [intOf]; omega⟩
    · have hke : X.data.toList.length / 64 = k := by omega
      have hf := HFF.out
      rw [hke] at hf
      rw [hf] at r1
      have hlt' : ¬ 64 * (k : Int) + 64 ≤ X.size := by omega
      have l1 : (ld31 (.pointer (some ⟨g, 0, none⟩))).run Tryd.prog wr = .ok (.agg (uc ff.list)) wr := ld_row A31 rfl r1.out
      have K1 := hide (HK.out.next bb.out)
      have hix := hide fun i hi W => idx31 ff i hi W
      clear hf HFF
      go_upto_region 12 with (first | (go_at_call 10; refine (HS.out _ K1.out).mono ?_; rintro e w4 ⟨rfl, b4⟩; have p1 := hide ((b4.block _ (lt_heap r1.out)).trans r1.out); have pb := hide (bb.out.trans (b4.mono bb.out.size)); clear b4) | refine wpList_allocA A25 rfl rfl ?_ | refine wpList_store_newA A25 rfl _ _ rfl _ rfl (hc D) (by rw [hc_size, hdl]) (hc_one _) rfl rfl ?_)
      have d1 := hide ((Below.heap_alloc _ (.cells (hc D) 25) _ (lt_heap p1.out)).trans p1.out)
      have d2 := hide (heap_alloc_last w4 (.cells (hc D) 25))
      have db := hide (pb.out.alloc pb.out.size (.cells (hc D) 25))
      clear p1 pb r1 bb K1 l1
      generalize w4.alloc (.cells (hc D) 25) = W4 at *
      generalize w4.heap.size = g4 at *
      have l4 : (ld31 (.pointer (some ⟨g, 0, none⟩))).run Tryd.prog W4 = .ok (.agg (uc ff.list)) W4 := ld_row A31 rfl d1.out
      generalize hFC : uc ff.list = FC at *
      go_wp2
      clear l4 d1
      go_loopw [58, 7, 8] (fun c _ _ wx => ∃ i : Nat, i ≤ 8 ∧ c = .int .i64 i ∧ Hid (wx.heap[g4]? = some (.cells (hc D) 25 (0, 0))) ∧ Hid (Below w.heap.size w wx)) (fun c _ _ _ => (8 - intOf c).toNat)
      case atStart => exact ⟨0, by omega, rfl, d2, db⟩
      case round =>
        clear d2 db
        obtain ⟨i, hi, rfl, r2, bb⟩ := hrel
        by_cases hi8 : i < 8
        · have hx := hix.out i hi8
          have c0 := (cell_of_row wr g4 (4 * i) _ _ _ r2.out).trans (HD.out (4 * i) (by omega))
          have c1 := (cell_of_row wr g4 (4 * i + 1) _ _ _ r2.out).trans (HD.out (4 * i + 1) (by omega))
          have c2 := (cell_of_row wr g4 (4 * i + 2) _ _ _ r2.out).trans (HD.out (4 * i + 2) (by omega))
          have c3 := (cell_of_row wr g4 (4 * i + 3) _ _ _ r2.out).trans (HD.out (4 * i + 3) (by omega))
          have wb := word_back ff i
          have e0 : (4 * (i : Int)).toNat = 4 * i := by omega
          have e1 : (4 * (i : Int) + 1).toNat = 4 * i + 1 := by omega
          have e2 : (4 * (i : Int) + 2).toNat = 4 * i + 2 := by omega
          have e3 : (4 * (i : Int) + 3).toNat = 4 * i + 3 := by omega
          have q0 : IntKind.i64.wrap (4 * (i : Int)) = 4 * i := wrapI _ (by omega) (by omega)
          have q1 : IntKind.i64.wrap (4 * (i : Int) + 1) = 4 * i + 1 := wrapI _ (by omega) (by omega)
          have q2 : IntKind.i64.wrap (4 * (i : Int) + 2) = 4 * i + 2 := wrapI _ (by omega) (by omega)
          have q3 : IntKind.i64.wrap (4 * (i : Int) + 3) = 4 * i + 3 := wrapI _ (by omega) (by omega)
          have a2 : (0 : Int) ≤ 4 * i := by omega
          have a3 : 4 * (i : Int) < 32 := by omega
          have a4 : (0 : Int) ≤ 4 * i + 1 := by omega
          have a5 : 4 * (i : Int) + 1 < 32 := by omega
          have a6 : (0 : Int) ≤ 4 * i + 2 := by omega
          have a7 : 4 * (i : Int) + 2 < 32 := by omega
          have a8 : (0 : Int) ≤ 4 * i + 3 := by omega
          have a9 : 4 * (i : Int) + 3 < 32 := by omega
          generalize (sb ff (4 * i)).toNat = b0 at *
          generalize (sb ff (4 * i + 1)).toNat = b1 at *
          generalize (sb ff (4 * i + 2)).toNat = b2 at *
          generalize (sb ff (4 * i + 3)).toNat = b3 at *
          generalize (ff.at i).toNat = xw at *
          go_wp2
          go_quiet (fail)
          go_wp2
          exact ⟨⟨i + 1, by omega, by go_num, r2, hide (below_drewN bb.out _)⟩, by simp [intOf]; omega⟩
        · have hie : i = 8 := by omega
          subst hie
          rw [show ((8 : Nat) : Int) = 8 from rfl]
          have J : Hid (Jc w wr.drew g4 D) := ⟨r2.out, bb.out.drew, HK.out.next bb.out.drew⟩
          clear r2 bb hix
          go_upto_region 18 with fail
          obtain ⟨I, hne, F, i0, h0, hJ, hcl⟩ : ∃ (I : Type) (_ : Nonempty I) (F : I → World) (i0 : I), wr.drew = F i0 ∧ Hid (∀ i, Jc w (F i) g4 D) ∧ Hid (∀ i W', Below (F i).heap.size (F i) W' → ∃ j, W' = F j) :=
            ⟨{W : World // Jc w W g4 D}, ⟨⟨_, J.out⟩⟩, Subtype.val, ⟨_, J.out⟩, rfl, fun i => i.2, fun i W' b => ⟨⟨W', i.2.next b⟩, rfl⟩⟩
          have hcv : ∀ i, (convert 46 9 (.slice (some ⟨g4, 0, none⟩) 32 32)).run Tryd.prog (F i) = .ok (.string ⟨D.toArray⟩) (F i) := fun i => conv_row (F i) g4 D hdl 25 (hJ.out i).a
          clear J
          generalize (⟨D.toArray⟩ : ByteArray) = DS at *
          refine wp_region_class_lit (by kernel_rfl) (by kernel_rfl) i0 h0 ?_
          repeat (first | (go_big_quiet_want; refine quiet_eql 25 _ _ _ (by rfl) (hc E) (hc E) (by rfl) (by rfl) eqg25 true eqf.out ?_; go_big_quiet_on; simp only [Act.put, List.setIfInBounds_toArray, List.set_cons_succ, List.set_cons_zero]) | go_big_quiet_step (first | (go_at_call 12; exact class_of hcl.out (HT.out _ (hJ.out _).kg)) | (go_at_call 10; exact class_of hcl.out (HSD.out _ (hJ.out _).kg))))
          refine wpQuiet_nil ?_
          rintro _ ⟨iq, rfl⟩
          go_wp2
          go_ret
          exact ⟨rfl, (hJ.out iq).below⟩
end
end Go.Proofs.YtempdhoccilhdaaDoor
