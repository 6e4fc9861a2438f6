/- The document's sum by a key: the contract of its Key. -/
import Derived.Test.YtempdhoccilhdaaDoorU
namespace Go.Proofs.YtempdhoccilhdaaDoor
open Go.RowKit
open Go.Deep
theorem keep_other {w w' : World} {u u' v : Value} {l : List UInt8} {O : Obj} (o : Own w v l) (ap : v.ownBlock = none ∨ v.ownBlock ≠ u.ownBlock) (t : Onto (w.alloc O) w' u u') : Own w' v l ∧ (v.ownBlock = none ∨ v.ownBlock ≠ u'.ownBlock) := by
  refine ⟨World.ownsRow.kept (o.alloc O) t.grown ap, ?_⟩
  rcases t.lies with h | ⟨g, h, hg⟩
  · rw [h]; exact ap
  · rw [h]
    rcases ap with h0 | _
    · exact .inl h0
    · refine .inr fun e => ?_
      have := (World.ownsRow.lt o g e).2
      simp at hg
      omega
theorem apart_symm {u v : Value} (h : v.ownBlock = none ∨ v.ownBlock ≠ u.ownBlock) : u.ownBlock = none ∨ u.ownBlock ≠ v.ownBlock := by
  rcases h with h | h
  · cases hu : u.ownBlock with
    | none => exact .inl rfl
    | some g => exact .inr (by rw [h]; simp)
  · exact .inr (Ne.symm h)
def sv24 (x y : Value) : Sem Unit := Instr.storeAt 24 x y
theorem sv24_eq (x y : Value) : Instr.storeAt 24 x y = sv24 x y := rfl
theorem sv24_row {w : World} {g : Nat} {c0 : Array Value} {t : TypeId} (hn : c0.size = 32) (hg : w.heap[g]? = some (.cells c0 t (0, 0))) (l : List UInt8) (hl : l.length = 32) : (sv24 (.pointer (some ⟨g, 0, none⟩)) (.agg (hc l))).run Tryd.prog w = .ok () (w.setRow g (hc l)) := by
  unfold sv24
  simp only [Instr.storeAt, Instr.sureAddr, Sem.run_bind, Sem.run_pure, Result.andThen_ok]
  rw [run_storeVar_row w g t 24 c0 (hc l) hg (by rw [A24.info, hc_size, hl]) (by rw [hn, hc_size, hl]) (hc_one _)]
/-- The first i bytes of a block, masked. -/
def inL (b : List UInt8) (m : UInt8) (i : Nat) : List UInt8 := (b.take i).map (· ^^^ m)
theorem inL_len (b : List UInt8) (m : UInt8) (i : Nat) (h : b.length = 64) (hi : i ≤ 64) : (inL b m i).length = i := by
  rw [inL, List.length_map, List.length_take]; omega
theorem inL_snoc (b : List UInt8) (m : UInt8) (i : Nat) (h : i < b.length) : inL b m i ++ [b.getD i 0 ^^^ m] = inL b m (i + 1) := by
  unfold inL
  rw [List.take_succ_eq_append_getElem h, List.map_append, List.getD_eq_getElem?_getD, List.getElem?_eq_getElem h]
  rfl
theorem inL_full (b : List UInt8) (m : UInt8) (h : b.length = 64) : inL b m 64 = maskL b m := by
  unfold inL maskL
  rw [List.take_of_length_le (by omega)]
theorem pad_get (K : ByteArray) (i : Nat) (h : i < K.size) : (pad64 K.data.toList).getD i 0 = K[i] := by
  unfold pad64
  rw [List.getD_eq_getElem?_getD, List.getElem?_append_left (by simpa using h), List.getElem?_eq_getElem (by simpa using h)]
  rfl
theorem pad_zero (K : ByteArray) (i : Nat) (h : ¬ i < K.size) (hi : i < 64) : (pad64 K.data.toList).getD i 0 = 0 := by
  unfold pad64
  rw [List.getD_eq_getElem?_getD, List.getElem?_append_right (by simp; omega), List.getElem?_replicate]
  have : K.data.toList.length = K.size := by simp
  rw [if_pos (by omega)]
  rfl
theorem own_new (w : World) : Own (w.alloc (.cells #[] 5)) (.slice (some ⟨w.heap.size, 0, none⟩) 0 0) [] :=
  row_own (l := []) (C := 0) (f := fun _ => .int .u8 0) ⟨_, heap_alloc_last _ _, rfl, fun i hi => by omega⟩ (by simp) (by unfold maxLen; omega) (fun i hi => by simp at hi)
theorem two_below_app {w wr w3 w5 : World} {A O1 O2 : Obj} {v6 v7 v6' v7' : Value} (B : Below w.heap.size w wr) (n : wr.heap[w.heap.size]? = some A) (f6 : ∀ k, v6.ownBlock = some k → w.heap.size < k) (f7 : ∀ k, v7.ownBlock = some k → w.heap.size < k) (t6 : Onto (wr.alloc O1) w3 v6 v6') (t7 : Onto (w3.alloc O2) w5 v7 v7') :
    Hid (w5.heap[w.heap.size]? = some A) ∧ Hid (Below w.heap.size w w5) ∧ Hid (∀ k, v6'.ownBlock = some k → w.heap.size < k) ∧ Hid (∀ k, v7'.ownBlock = some k → w.heap.size < k) := by
  have hlt := lt_heap n
  have T6 : Onto wr w3 v6 v6' := ((Onto.refl _ _).alloc _).trans t6
  have T7 : Onto w3 w5 v7 v7' := ((Onto.refl _ _).alloc _).trans t7
  have b6 : Below (w.heap.size + 1) wr w3 := T6.below (by omega) (fun k hk => f6 k hk)
  have s3 := T6.grown.size
  have b7 : Below (w.heap.size + 1) w3 w5 := T7.below (by omega) (fun k hk => f7 k hk)
  have bb := b6.trans b7
  exact ⟨(bb.block _ (by omega)).trans n, B.trans (bb.mono (by omega)), fun k hk => T6.far (B := w.heap.size + 1) (by omega) (fun k hk => f6 k hk) k hk, fun k hk => T7.far (B := w.heap.size + 1) (by omega) (fun k hk => f7 k hk) k hk⟩
theorem own_below {w w' : World} {v : Value} {l : List UInt8} (o : Own w v l) (b : Below w.heap.size w w') : Own w' v l :=
  World.ownsRow.kept o (row := none) ⟨b.os, b.tape, b.output, b.size, fun k hk _ => b.block k hk⟩ (by cases h : v.ownBlock <;> simp)
attribute [local go_sem ↓] sv24_eq
section
set_option maxRecDepth 10000
set_option maxHeartbeats 2000000
theorem rkey_any (k s : ByteArray) (hk : k.size < 2305843009213692000) (hs : s.size < 2305843009213692000) (w : World) : Calls Tryd.prog 34 #[.string k, .string s] w fun e w' => e = .returned (.agg (hc (hmac k.data.toList s.data.toList))) ∧ Below w.heap.size w w' := by
  have hkl : k.data.toList.length = k.size := by simp
  have HS := hide fun W => rsum_any k (by omega) W
  have hdk := digest_len k.data.toList
  have hml := hmac_len k.data.toList s.data.toList
  have hmd : hmac k.data.toList s.data.toList = digest (maskL (pad64 (keyS k.data.toList)) 92 ++ digest (maskL (pad64 (keyS k.data.toList)) 54 ++ s.data.toList)) := rfl
  have hkb := keyS_len k.data.toList
  generalize hmac k.data.toList s.data.toList = M at *
  have HMD := hide hmd
  clear hmd
  have N0 := hide (heap_alloc_last w (.cells (hc zeros) 24))
  have B0 := hide ((Below.refl w.heap.size w).alloc (Nat.le_refl _) (.cells (hc zeros) 24))
  by_cases hlt : 64 < k.size
  · have hks : Hid (keyS k.data.toList = digest k.data.toList) := if_pos (by omega)
    generalize digest k.data.toList = D at *
    go_enter Tryd.func34, Tryd.ntmps34
    go_upto_region 4 with (first | refine wpList_allocA A24 rfl rfl ?_ | (go_at_call 11; refine (HS.out _).mono ?_; rintro e w1 ⟨rfl, b1⟩; obtain ⟨n1, B1, _⟩ := sb_mid b1 (Nat.le_refl _); clear b1; have hcv := conv_row (w1.alloc (.cells (hc D) 24)) w1.heap.size D hdk 24 (heap_alloc_last _ _); have n2 := hide ((Below.heap_alloc _ (.cells (hc D) 24) _ (lt_heap n1.out)).trans n1.out); have B2 := hide (B1.out.alloc B1.out.size (.cells (hc D) 24)); clear n1 B1) | refine wpList_store_newA A24 rfl _ _ rfl _ rfl (hc D) (by rw [hc_size, hdk]) (hc_one _) rfl rfl ?_)
    have hKz : (⟨D.toArray⟩ : ByteArray).size ≤ 64 := by show D.toArray.size ≤ 64; rw [List.size_toArray, hdk]; omega
    have HKS : Hid (keyS k.data.toList = (⟨D.toArray⟩ : ByteArray).data.toList) := hks.out
    have hKl : (⟨D.toArray⟩ : ByteArray).data.toList.length ≤ 64 := by show D.length ≤ 64; omega
    generalize (⟨D.toArray⟩ : ByteArray) = K at *
    generalize w1.alloc (.cells (hc D) 24) = WK at *
    have hpl := pad64_len K.data.toList (by omega)
    have HMD2 : Hid (M = digest (maskL (pad64 K.data.toList) 92 ++ digest (maskL (pad64 K.data.toList) 54 ++ s.data.toList))) := by
      show M = _
      rw [HMD.out, HKS.out]
    clear HMD HKS
    go_wp2
    have o6 := hide ((own_new WK).alloc (.cells #[] 5))
    have o7 : Hid (Own ((WK.alloc (.cells #[] 5)).alloc (.cells #[] 5)) (.slice (some ⟨WK.heap.size + 1, 0, none⟩) 0 0) []) := by
      have := own_new (WK.alloc (.cells #[] 5))
      rw [show (WK.alloc (.cells #[] 5)).heap.size = WK.heap.size + 1 from by simp] at this
      exact this
    have ap : Hid ((Value.slice (some ⟨WK.heap.size + 1, 0, none⟩) 0 0).ownBlock = none ∨ (Value.slice (some ⟨WK.heap.size + 1, 0, none⟩) 0 0).ownBlock ≠ (Value.slice (some ⟨WK.heap.size, 0, none⟩) 0 0).ownBlock) := .inr (by simp [Value.ownBlock])
    have n3 := hide ((Below.heap_alloc _ (.cells #[] 5) _ (by have := lt_heap n2.out; simp; omega)).trans ((Below.heap_alloc _ (.cells #[] 5) _ (lt_heap n2.out)).trans n2.out))
    have B3 := hide ((B2.out.alloc B2.out.size (.cells #[] 5)).alloc (by have := B2.out.size; simp; omega) (.cells #[] 5))
    have f6 : Hid (∀ k, (Value.slice (some ⟨WK.heap.size, 0, none⟩) 0 0).ownBlock = some k → w.heap.size < k) := fun k hk => by cases hk; exact lt_heap n2.out
    have f7 : Hid (∀ k, (Value.slice (some ⟨WK.heap.size + 1, 0, none⟩) 0 0).ownBlock = some k → w.heap.size < k) := fun k hk => by cases hk; have := lt_heap n2.out; show w.heap.size < WK.heap.size + 1; omega
    go_loopw [6, 7, 8, 9] (fun v6 v7 c _ wr => ∃ i : Nat, i ≤ 64 ∧ c = .int .i64 i ∧ Hid (Own wr v6 (inL (pad64 K.data.toList) 54 i)) ∧ Hid (Own wr v7 (inL (pad64 K.data.toList) 92 i)) ∧ Hid (v7.ownBlock = none ∨ v7.ownBlock ≠ v6.ownBlock) ∧ Hid (wr.heap[w.heap.size]? = some (.cells (hc zeros) 24 (0, 0))) ∧ Hid (Below w.heap.size w wr) ∧ Hid (∀ k, v6.ownBlock = some k → w.heap.size < k) ∧ Hid (∀ k, v7.ownBlock = some k → w.heap.size < k)) (fun _ _ c _ _ => (64 - intOf c).toNat)
    case atStart => exact ⟨0, by omega, rfl, o6, o7, ap, n3, B3, f6, f7⟩
    case round =>
      clear o6 o7 ap n3 B3 f6 f7
      obtain ⟨i, hi, rfl, o6, o7, ap, n3, B3, f6, f7⟩ := hrel
      by_cases hi64 : i < 64
      · have hl6 := inL_len (pad64 K.data.toList) 54 i hpl (by omega)
        have hl7 := inL_len (pad64 K.data.toList) 92 i hpl (by omega)
        have s6 := hide (inL_snoc (pad64 K.data.toList) 54 i (by omega))
        have s7 := hide (inL_snoc (pad64 K.data.toList) 92 i (by omega))
        have t0 : (0 : Int) ≤ i := by omega
        by_cases hik : i < K.size
        · have t1 : (i : Int) < K.size := by omega
          rw [pad_get K i hik] at s6 s7
          have x6 := xor8 K[i] 54
          have x7 := xor8 K[i] 92
          rw [show (((54 : UInt8).toNat : Nat) : Int) = 54 from rfl] at x6
          rw [show (((92 : UInt8).toNat : Nat) : Int) = 92 from rfl] at x7
          generalize hbb : K[i] = bb at *
          generalize hc6 : bb ^^^ 54 = c6 at *
          generalize hc7 : bb ^^^ 92 = c7 at *
          clear hc6 hc7
          go_wp2_with (first | (at_builtin; refine wpList_app rfl _ _ rfl u6 _ rfl (o6.out.alloc _) ⟨wr.heap.size, 0, none⟩ 1 1 [c6] rfl rfl (by first | exact one_new _ _ _ rfl | exact one_new _ _ _ x6) (by omega) ?_; intro v6' w3 n6 t6; obtain ⟨p7, q7⟩ := keep_other o7.out ap.out t6) | (at_builtin; refine wpList_app rfl _ _ rfl u7 _ rfl (p7.alloc _) ⟨w3.heap.size, 0, none⟩ 1 1 [c7] rfl rfl (by first | exact one_new _ _ _ rfl | exact one_new _ _ _ x7) (by omega) ?_; intro v7' w5 n7 t7; obtain ⟨p6, q6⟩ := keep_other n6 (apart_symm q7) t7))
          obtain ⟨m0, m1, m2, m3⟩ := two_below_app B3.out n3.out f6.out f7.out t6 t7
          exact ⟨⟨i + 1, by omega, by go_num, by rw [← s6.out]; exact p6, by rw [← s7.out]; exact n7, apart_symm q6, m0, m1, m2, m3⟩, by simp [intOf]; omega⟩
        · have t1 : ¬ (i : Int) < K.size := by omega
          rw [pad_zero K i hik hi64] at s6 s7
          have x6 : bits .xor .u8 0 54 = (((0 ^^^ 54 : UInt8)).toNat : Int) := by decide
          have x7 : bits .xor .u8 0 92 = (((0 ^^^ 92 : UInt8)).toNat : Int) := by decide
          generalize (0 ^^^ 54 : UInt8) = c6 at *
          generalize (0 ^^^ 92 : UInt8) = c7 at *
          go_wp2_with (first | (at_builtin; refine wpList_app rfl _ _ rfl u6 _ rfl (o6.out.alloc _) ⟨wr.heap.size, 0, none⟩ 1 1 [c6] rfl rfl (by first | exact one_new _ _ _ rfl | exact one_new _ _ _ x6) (by omega) ?_; intro v6' w3 n6 t6; obtain ⟨p7, q7⟩ := keep_other o7.out ap.out t6) | (at_builtin; refine wpList_app rfl _ _ rfl u7 _ rfl (p7.alloc _) ⟨w3.heap.size, 0, none⟩ 1 1 [c7] rfl rfl (by first | exact one_new _ _ _ rfl | exact one_new _ _ _ x7) (by omega) ?_; intro v7' w5 n7 t7; obtain ⟨p6, q6⟩ := keep_other n6 (apart_symm q7) t7))
          obtain ⟨m0, m1, m2, m3⟩ := two_below_app B3.out n3.out f6.out f7.out t6 t7
          exact ⟨⟨i + 1, by omega, by go_num, by rw [← s6.out]; exact p6, by rw [← s7.out]; exact n7, apart_symm q6, m0, m1, m2, m3⟩, by simp [intOf]; omega⟩
      · have hie : i = 64 := by omega
        subst hie
        rw [inL_full _ _ hpl] at o6 o7
        have hm6 := maskL_len (pad64 K.data.toList) 54
        have hm7 := maskL_len (pad64 K.data.toList) 92
        rw [hpl] at hm6 hm7
        generalize maskL (pad64 K.data.toList) 54 = I6 at *
        generalize maskL (pad64 K.data.toList) 92 = I7 at *
        have hcv6 := conv_own o6.out
        have z6 : (⟨I6.toArray⟩ : ByteArray).size = 64 := by show I6.toArray.size = 64; rw [List.size_toArray, hm6]
        have z7 : (⟨I7.toArray⟩ : ByteArray).size = 64 := by show I7.toArray.size = 64; rw [List.size_toArray, hm7]
        have H1 := hide fun W => rsum_any ((⟨I6.toArray⟩ : ByteArray) ++ s) (by rw [ByteArray.size_append]; omega) W
        rw [show ((⟨I6.toArray⟩ : ByteArray) ++ s).data.toList = I6 ++ s.data.toList from by simp] at H1
        have hd1 := digest_len (I6 ++ s.data.toList)
        generalize digest (I6 ++ s.data.toList) = D1 at *
        have zd : (⟨D1.toArray⟩ : ByteArray).size = 32 := by show D1.toArray.size = 32; rw [List.size_toArray, hd1]
        have H2 := hide fun W => rsum_any ((⟨I7.toArray⟩ : ByteArray) ++ (⟨D1.toArray⟩ : ByteArray)) (by rw [ByteArray.size_append]; omega) W
        rw [show ((⟨I7.toArray⟩ : ByteArray) ++ (⟨D1.toArray⟩ : ByteArray)).data.toList = I7 ++ D1 from by simp, ← HMD2.out] at H2
        clear o6 ap f6 f7
        go_upto_region 13 with (first | (go_at_call 11; refine (H1.out _).mono ?_; rintro e w6 ⟨rfl, b6⟩) | refine wpList_allocA A24 rfl rfl ?_ | refine wpList_store_newA A24 rfl _ _ rfl _ rfl (hc D1) (by rw [hc_size, hd1]) (hc_one _) rfl rfl ?_)
        have o8 := own_below (own_below o7.out b6) (((Below.refl w6.heap.size w6).alloc (Nat.le_refl _) (.cells (hc D1) 24)).drew)
        have hcv7 := conv_own o8
        have e6 := (b6.block _ (lt_heap n3.out)).trans n3.out
        have m0 : Hid ((w6.alloc (.cells (hc D1) 24)).drew.heap[w.heap.size]? = some (.cells (hc zeros) 24 (0, 0))) := (Below.heap_alloc _ (.cells (hc D1) 24) _ (lt_heap e6)).trans e6
        have B6 := B3.out.trans (b6.mono B3.out.size)
        have mB := hide (B6.alloc B6.size (.cells (hc D1) 24)).drew
        have hcvD := conv_row (w6.alloc (.cells (hc D1) 24)).drew w6.heap.size D1 hd1 24 (heap_alloc_last _ _)
        clear o8 e6 B6 b6 o7 n3 B3 hcv6
        go_region_with (go_at_call 11; refine (H2.out _).mono ?_; rintro e w7 ⟨rfl, b7⟩; have s0 := hide ((b7.block _ (lt_heap m0.out)).trans m0.out); have sB := hide (mB.out.trans (b7.mono mB.out.size)); have hsv := sv24_row (c0 := hc zeros) (by rw [hc_size, zeros_len]) s0.out M hml; clear b7)
        all_goals go_wp2
        all_goals exact bodyPost_ret (v := .agg (hc M)) (resA A24 Tryd.results34 _ _ w.heap.size 24 _ (by rw [hc_size, hml]) rfl (setRow_heap _ _ _ _ _ _ s0.out)) rfl ⟨rfl, below_setRow sB.out (Nat.le_refl _) _⟩
  · have HKS : Hid (keyS k.data.toList = k.data.toList) := if_neg (by omega)
    go_enter Tryd.func34, Tryd.ntmps34
    go_upto_region 4 with (refine wpList_allocA A24 rfl rfl ?_)
    have n2 := N0
    have B2 := B0
    generalize w.alloc (.cells (hc zeros) 24) = WK at *
    have hpl := pad64_len k.data.toList (by omega)
    have HMD2 : Hid (M = digest (maskL (pad64 k.data.toList) 92 ++ digest (maskL (pad64 k.data.toList) 54 ++ s.data.toList))) := by
      show M = _
      rw [HMD.out, HKS.out]
    clear HMD HKS
    go_wp2
    have o6 := hide ((own_new WK).alloc (.cells #[] 5))
    have o7 : Hid (Own ((WK.alloc (.cells #[] 5)).alloc (.cells #[] 5)) (.slice (some ⟨WK.heap.size + 1, 0, none⟩) 0 0) []) := by
      have := own_new (WK.alloc (.cells #[] 5))
      rw [show (WK.alloc (.cells #[] 5)).heap.size = WK.heap.size + 1 from by simp] at this
      exact this
    have ap : Hid ((Value.slice (some ⟨WK.heap.size + 1, 0, none⟩) 0 0).ownBlock = none ∨ (Value.slice (some ⟨WK.heap.size + 1, 0, none⟩) 0 0).ownBlock ≠ (Value.slice (some ⟨WK.heap.size, 0, none⟩) 0 0).ownBlock) := .inr (by simp [Value.ownBlock])
    have n3 := hide ((Below.heap_alloc _ (.cells #[] 5) _ (by have := lt_heap n2.out; simp; omega)).trans ((Below.heap_alloc _ (.cells #[] 5) _ (lt_heap n2.out)).trans n2.out))
    have B3 := hide ((B2.out.alloc B2.out.size (.cells #[] 5)).alloc (by have := B2.out.size; simp; omega) (.cells #[] 5))
    have f6 : Hid (∀ k, (Value.slice (some ⟨WK.heap.size, 0, none⟩) 0 0).ownBlock = some k → w.heap.size < k) := fun k hk => by cases hk; exact lt_heap n2.out
    have f7 : Hid (∀ k, (Value.slice (some ⟨WK.heap.size + 1, 0, none⟩) 0 0).ownBlock = some k → w.heap.size < k) := fun k hk => by cases hk; have := lt_heap n2.out; show w.heap.size < WK.heap.size + 1; omega
    go_loopw [6, 7, 8, 9] (fun v6 v7 c _ wr => ∃ i : Nat, i ≤ 64 ∧ c = .int .i64 i ∧ Hid (Own wr v6 (inL (pad64 k.data.toList) 54 i)) ∧ Hid (Own wr v7 (inL (pad64 k.data.toList) 92 i)) ∧ Hid (v7.ownBlock = none ∨ v7.ownBlock ≠ v6.ownBlock) ∧ Hid (wr.heap[w.heap.size]? = some (.cells (hc zeros) 24 (0, 0))) ∧ Hid (Below w.heap.size w wr) ∧ Hid (∀ k, v6.ownBlock = some k → w.heap.size < k) ∧ Hid (∀ k, v7.ownBlock = some k → w.heap.size < k)) (fun _ _ c _ _ => (64 - intOf c).toNat)
    case atStart => exact ⟨0, by omega, rfl, o6, o7, ap, n3, B3, f6, f7⟩
    case round =>
      clear o6 o7 ap n3 B3 f6 f7
      obtain ⟨i, hi, rfl, o6, o7, ap, n3, B3, f6, f7⟩ := hrel
      by_cases hi64 : i < 64
      · have hl6 := inL_len (pad64 k.data.toList) 54 i hpl (by omega)
        have hl7 := inL_len (pad64 k.data.toList) 92 i hpl (by omega)
        have s6 := hide (inL_snoc (pad64 k.data.toList) 54 i (by omega))
        have s7 := hide (inL_snoc (pad64 k.data.toList) 92 i (by omega))
        have t0 : (0 : Int) ≤ i := by omega
        by_cases hik : i < k.size
        · have t1 : (i : Int) < k.size := by omega
          rw [pad_get k i hik] at s6 s7
          have x6 := xor8 k[i] 54
          have x7 := xor8 k[i] 92
          rw [show (((54 : UInt8).toNat : Nat) : Int) = 54 from rfl] at x6
          rw [show (((92 : UInt8).toNat : Nat) : Int) = 92 from rfl] at x7
          generalize hbb : k[i] = bb at *
          generalize hc6 : bb ^^^ 54 = c6 at *
          generalize hc7 : bb ^^^ 92 = c7 at *
          clear hc6 hc7
          go_wp2_with (first | (at_builtin; refine wpList_app rfl _ _ rfl u6 _ rfl (o6.out.alloc _) ⟨wr.heap.size, 0, none⟩ 1 1 [c6] rfl rfl (by first | exact one_new _ _ _ rfl | exact one_new _ _ _ x6) (by omega) ?_; intro v6' w3 n6 t6; obtain ⟨p7, q7⟩ := keep_other o7.out ap.out t6) | (at_builtin; refine wpList_app rfl _ _ rfl u7 _ rfl (p7.alloc _) ⟨w3.heap.size, 0, none⟩ 1 1 [c7] rfl rfl (by first | exact one_new _ _ _ rfl | exact one_new _ _ _ x7) (by omega) ?_; intro v7' w5 n7 t7; obtain ⟨p6, q6⟩ := keep_other n6 (apart_symm q7) t7))
          obtain ⟨m0, m1, m2, m3⟩ := two_below_app B3.out n3.out f6.out f7.out t6 t7
          exact ⟨⟨i + 1, by omega, by go_num, by rw [← s6.out]; exact p6, by rw [← s7.out]; exact n7, apart_symm q6, m0, m1, m2, m3⟩, by simp [intOf]; omega⟩
        · have t1 : ¬ (i : Int) < k.size := by omega
          rw [pad_zero k i hik hi64] at s6 s7
          have x6 : bits .xor .u8 0 54 = (((0 ^^^ 54 : UInt8)).toNat : Int) := by decide
          have x7 : bits .xor .u8 0 92 = (((0 ^^^ 92 : UInt8)).toNat : Int) := by decide
          generalize (0 ^^^ 54 : UInt8) = c6 at *
          generalize (0 ^^^ 92 : UInt8) = c7 at *
          go_wp2_with (first | (at_builtin; refine wpList_app rfl _ _ rfl u6 _ rfl (o6.out.alloc _) ⟨wr.heap.size, 0, none⟩ 1 1 [c6] rfl rfl (by first | exact one_new _ _ _ rfl | exact one_new _ _ _ x6) (by omega) ?_; intro v6' w3 n6 t6; obtain ⟨p7, q7⟩ := keep_other o7.out ap.out t6) | (at_builtin; refine wpList_app rfl _ _ rfl u7 _ rfl (p7.alloc _) ⟨w3.heap.size, 0, none⟩ 1 1 [c7] rfl rfl (by first | exact one_new _ _ _ rfl | exact one_new _ _ _ x7) (by omega) ?_; intro v7' w5 n7 t7; obtain ⟨p6, q6⟩ := keep_other n6 (apart_symm q7) t7))
          obtain ⟨m0, m1, m2, m3⟩ := two_below_app B3.out n3.out f6.out f7.out t6 t7
          exact ⟨⟨i + 1, by omega, by go_num, by rw [← s6.out]; exact p6, by rw [← s7.out]; exact n7, apart_symm q6, m0, m1, m2, m3⟩, by simp [intOf]; omega⟩
      · have hie : i = 64 := by omega
        subst hie
        rw [inL_full _ _ hpl] at o6 o7
        have hm6 := maskL_len (pad64 k.data.toList) 54
        have hm7 := maskL_len (pad64 k.data.toList) 92
        rw [hpl] at hm6 hm7
        generalize maskL (pad64 k.data.toList) 54 = I6 at *
        generalize maskL (pad64 k.data.toList) 92 = I7 at *
        have hcv6 := conv_own o6.out
        have z6 : (⟨I6.toArray⟩ : ByteArray).size = 64 := by show I6.toArray.size = 64; rw [List.size_toArray, hm6]
        have z7 : (⟨I7.toArray⟩ : ByteArray).size = 64 := by show I7.toArray.size = 64; rw [List.size_toArray, hm7]
        have H1 := hide fun W => rsum_any ((⟨I6.toArray⟩ : ByteArray) ++ s) (by rw [ByteArray.size_append]; omega) W
        rw [show ((⟨I6.toArray⟩ : ByteArray) ++ s).data.toList = I6 ++ s.data.toList from by simp] at H1
        have hd1 := digest_len (I6 ++ s.data.toList)
        generalize digest (I6 ++ s.data.toList) = D1 at *
        have zd : (⟨D1.toArray⟩ : ByteArray).size = 32 := by show D1.toArray.size = 32; rw [List.size_toArray, hd1]
        have H2 := hide fun W => rsum_any ((⟨I7.toArray⟩ : ByteArray) ++ (⟨D1.toArray⟩ : ByteArray)) (by rw [ByteArray.size_append]; omega) W
        rw [show ((⟨I7.toArray⟩ : ByteArray) ++ (⟨D1.toArray⟩ : ByteArray)).data.toList = I7 ++ D1 from by simp, ← HMD2.out] at H2
        clear o6 ap f6 f7
        go_upto_region 13 with (first | (go_at_call 11; refine (H1.out _).mono ?_; rintro e w6 ⟨rfl, b6⟩) | refine wpList_allocA A24 rfl rfl ?_ | refine wpList_store_newA A24 rfl _ _ rfl _ rfl (hc D1) (by rw [hc_size, hd1]) (hc_one _) rfl rfl ?_)
        have o8 := own_below (own_below o7.out b6) (((Below.refl w6.heap.size w6).alloc (Nat.le_refl _) (.cells (hc D1) 24)).drew)
        have hcv7 := conv_own o8
        have e6 := (b6.block _ (lt_heap n3.out)).trans n3.out
        have m0 : Hid ((w6.alloc (.cells (hc D1) 24)).drew.heap[w.heap.size]? = some (.cells (hc zeros) 24 (0, 0))) := (Below.heap_alloc _ (.cells (hc D1) 24) _ (lt_heap e6)).trans e6
        have B6 := B3.out.trans (b6.mono B3.out.size)
        have mB := hide (B6.alloc B6.size (.cells (hc D1) 24)).drew
        have hcvD := conv_row (w6.alloc (.cells (hc D1) 24)).drew w6.heap.size D1 hd1 24 (heap_alloc_last _ _)
        clear o8 e6 B6 b6 o7 n3 B3 hcv6
        go_region_with (go_at_call 11; refine (H2.out _).mono ?_; rintro e w7 ⟨rfl, b7⟩; have s0 := hide ((b7.block _ (lt_heap m0.out)).trans m0.out); have sB := hide (mB.out.trans (b7.mono mB.out.size)); have hsv := sv24_row (c0 := hc zeros) (by rw [hc_size, zeros_len]) s0.out M hml; clear b7)
        all_goals go_wp2
        all_goals exact bodyPost_ret (v := .agg (hc M)) (resA A24 Tryd.results34 _ _ w.heap.size 24 _ (by rw [hc_size, hml]) rfl (setRow_heap _ _ _ _ _ _ s0.out)) rfl ⟨rfl, below_setRow sB.out (Nat.le_refl _) _⟩
end
end Go.Proofs.YtempdhoccilhdaaDoor
