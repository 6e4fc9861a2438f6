/- The contracts of the document's Keys, of ShortBytes and TakeShort. -/
import Derived.Test.YtpjpnkohagcegaaDoorYp
namespace Go.Proofs.YtpjpnkohagcegaaDoor
open Go.RowKit
open Go.Deep
/-- A part of a hash, turned into a string. -/
theorem conv_part (w : World) (g : Nat) (l : List UInt8) (o k c : Nat) (hl : o + k ≤ l.length) (t : TypeId) (hg : w.heap[g]? = some (.cells (hc l) t (0, 0))) :
    (convert 52 9 (.slice (some ⟨g, o, none⟩) k c)).run Tryd.prog w = .ok (.string ⟨((l.drop o).take k).toArray⟩) w := by
  have hlen : ((l.drop o).take k).length = k := by rw [List.length_take, List.length_drop]; omega
  have := run_convert_bytes_back (P := Tryd.prog) w 52 9 5 ⟨g, o, none⟩ c ((l.drop o).take k) Tryd.underlying52 Tryd.underlying5 Tryd.underlying9 (fun j hj => by
    have hadd : (⟨g, o, none⟩ : Addr).add j = ⟨g, o + j, none⟩ := by unfold Addr.add; split <;> simp_all
    rw [hlen] at hj
    rw [hadd, cell_of_row w g (o + j) _ t (0, 0) hg, hc_at l (o + j) (by omega), by8]
    simp [List.getElem?_eq_getElem (show o + j < l.length by omega)])
  rwa [hlen] at this
/-- What is known of the world in the document's Keys. -/
structure Jr (w W : World) (g : Nat) (D : List UInt8) : Prop where
  h : W.heap[g]? = some (.cells (hc D) 23 (0, 0))
  below : Below w.heap.size w W
theorem Jr.next {w W W' : World} {g : Nat} {D : List UInt8} (j : Jr w W g D) (h : Below W.heap.size W W') : Jr w W' g D :=
  ⟨(h.block _ (lt_heap j.h)).trans j.h, j.below.trans (h.mono j.below.size)⟩
theorem lowL_take (n k m : Nat) (h : k ≤ m) : (lowL n m).take k = lowL n k := by
  induction m generalizing n k with
  | zero => have : k = 0 := by omega
            subst this; rfl
  | succ m ih =>
    cases k with
    | zero => rfl
    | succ k => rw [lowL, lowL, List.take_succ_cons, ih _ _ (by omega)]
theorem leN_lowL (n k : Nat) : leN (lowL n k) = n % 256 ^ k := by
  induction k generalizing n with
  | zero => simp [lowL, leN, Nat.mod_one]
  | succ k ih =>
    rw [lowL, leN, ih, Nat.pow_succ, Nat.mul_comm (256 ^ k) 256, Nat.mod_mul, UInt8.toNat_ofNat']
    omega
section
set_option maxRecDepth 10000
set_option maxHeartbeats 1000000
theorem rkeys_any (h : ByteArray) (n : Nat) (hh : h.size = 80) (hn : U64 n) (w : World) : Calls Tryd.prog 6 #[.string h, .int .u64 (n : Int)] w fun e w' => e = .returned (.tuple #[.int .u64 ((keyA (keyD h.data.toList n)).toNat : Int), .int .u64 ((keyB (keyD h.data.toList n)).toNat : Int)]) ∧ Below w.heap.size w w' := by
  have hT : h ++ (⟨(lowL n 8).toArray⟩ : ByteArray) = txt (h.data.toList ++ lowL n 8) := by
    apply bytes_ext
    simp [txt]
  have hL8 : (⟨(lowL n 8).toArray⟩ : ByteArray).size = 8 := by show (lowL n 8).toArray.size = 8; rw [List.size_toArray, lowL_len]
  have HL := hide fun W => low_any n 8 8 rfl hn W (by omega)
  have hTl : (txt (h.data.toList ++ lowL n 8)).size < 2305843009213693000 := by
    rw [← hT, ByteArray.size_append, hL8]
    omega
  have HS := hide fun W => rsum_any (txt (h.data.toList ++ lowL n 8)) hTl W
  rw [show digest (txt (h.data.toList ++ lowL n 8)).data.toList = keyD h.data.toList n from rfl] at HS
  have hdl : (keyD h.data.toList n).length = 32 := digest_len _
  generalize keyD h.data.toList n = D at *
  have hc1 : (D.take 8).length ≤ 8 := by rw [List.length_take]; omega
  have hc2 : ((D.drop 8).take 8).length ≤ 8 := by rw [List.length_take]; omega
  have G1 := hide fun W => get_any ⟨(D.take 8).toArray⟩ (by show (D.take 8).toArray.size ≤ 8; rw [List.size_toArray]; exact hc1) W
  have G2 := hide fun W => get_any ⟨((D.drop 8).take 8).toArray⟩ (by show ((D.drop 8).take 8).toArray.size ≤ 8; rw [List.size_toArray]; exact hc2) W
  rw [show (⟨(D.take 8).toArray⟩ : ByteArray).data.toList = D.take 8 from rfl, leN_u64 _ hc1, show UInt64.ofNat (leN (D.take 8)) = keyA D from rfl] at G1
  rw [show (⟨((D.drop 8).take 8).toArray⟩ : ByteArray).data.toList = (D.drop 8).take 8 from rfl, leN_u64 _ hc2, show UInt64.ofNat (leN ((D.drop 8).take 8)) = keyB D from rfl] at G2
  have HT := hide hT
  generalize (⟨(lowL n 8).toArray⟩ : ByteArray) = L8 at *
  clear hT
  go_enter Tryd.func6, Tryd.ntmps6
  go_wp2_with (first | (go_at_call 11; refine (HL.out _).mono ?_; rintro e w1 ⟨rfl, b1⟩; have B1 := hide b1; clear b1))
  rw [HT.out]
  refine (HS.out _).mono ?_
  rintro e w2 ⟨rfl, b2⟩
  have B2 := hide (below_next B1.out b2)
  clear b2
  go_upto_region 2 with (first | refine wpList_allocA A24 rfl rfl ?_ | refine wpList_store_newA A24 rfl _ _ rfl _ rfl (hc D) (by rw [hc_size, hdl]) (hc_one _) rfl rfl ?_)
  simp only [Act.put, List.setIfInBounds_toArray, List.set_cons_succ, List.set_cons_zero]
  have J : Hid (Jr w (w2.alloc (.cells (hc D) 23)).drew w2.heap.size D) := ⟨heap_alloc_last _ _, (B2.out.alloc B2.out.size _).drew⟩
  obtain ⟨I, hne, F, i0, h0, hJ, hcl⟩ : ∃ (I : Type) (_ : Nonempty I) (F : I → World) (i0 : I), (w2.alloc (.cells (hc D) 23)).drew = F i0 ∧ Hid (∀ i, Jr w (F i) w2.heap.size D) ∧ Hid (∀ i W', Below (F i).heap.size (F i) W' → ∃ j, W' = F j) :=
    ⟨{W : World // Jr w W w2.heap.size D}, ⟨⟨_, J.out⟩⟩, Subtype.val, ⟨_, J.out⟩, rfl, fun i => i.2, fun i W' b => ⟨⟨W', i.2.next b⟩, rfl⟩⟩
  have cv1 : ∀ i, (convert 52 9 (.slice (some ⟨w2.heap.size, 0, none⟩) 8 32)).run Tryd.prog (F i) = .ok (.string ⟨(D.take 8).toArray⟩) (F i) := fun i => conv_part (F i) _ D 0 8 32 (by omega) _ (hJ.out i).h
  have cv2 : ∀ i, (convert 52 9 (.slice (some ⟨w2.heap.size, 8, none⟩) 8 24)).run Tryd.prog (F i) = .ok (.string ⟨((D.drop 8).take 8).toArray⟩) (F i) := fun i => conv_part (F i) _ D 8 8 24 (by omega) _ (hJ.out i).h
  clear J
  generalize (⟨(D.take 8).toArray⟩ : ByteArray) = S1 at *
  generalize (⟨((D.drop 8).take 8).toArray⟩ : ByteArray) = S2 at *
  refine wp_region_class_lit (by kernel_rfl) (by kernel_rfl) i0 h0 ?_
  repeat (go_big_quiet_step (first | (go_at_call_of 12 (Value.string S1); exact class_of_same (G1.out _)) | (go_at_call_of 12 (Value.string S2); exact class_of_same (G2.out _))))
  refine wpQuiet_nil ?_
  rintro _ ⟨iq, rfl⟩
  go_wp2
  go_ret2
  exact ⟨rfl, (hJ.out iq).below⟩
theorem sbytes_bad (n : Nat) (hn : 281474976710655 < n) (w : World) : Calls Tryd.prog 8 #[.int .u64 (n : Int)] w fun e w' => e = .returned (.tuple #[.string ⟨#[]⟩, .int .i64 30]) ∧ Below w.heap.size w w' := by
  have h1 : (281474976710655 : Int) < n := by omega
  go_enter Tryd.func8, Tryd.ntmps8
  go_wp2
  go_ret2
  exact ⟨rfl, Below.refl _ _⟩
theorem txt_cut (n : Nat) : (txt (lowL n 8)).extract 0 6 = txt (lowL n 6) := by
  apply bytes_ext
  rw [ext_take]
  show (lowL n 8).take 6 = lowL n 6
  exact lowL_take n 6 8 (by omega)
theorem sbytes_good (n : Nat) (hn : n ≤ 281474976710655) (w : World) : Calls Tryd.prog 8 #[.int .u64 (n : Int)] w fun e w' => e = .returned (.tuple #[.string (txt (lowL n 6)), .int .i64 0]) ∧ Below w.heap.size w w' := by
  have h1 : ¬ (281474976710655 : Int) < n := by omega
  have hU : U64 n := by unfold U64; omega
  have hX := hide (txt_cut n)
  have hsz : (txt (lowL n 8)).size = 8 := by show (lowL n 8).toArray.size = 8; rw [List.size_toArray, lowL_len]
  have B2 := hide ((Below.refl w.heap.size w).alloc (Nat.le_refl _) (.cells #[.slice none 0 0] 64))
  have hQ := hide (row_new w)
  have hW := hide (Wst.new w)
  go_enter Tryd.func8, Tryd.ntmps8
  go_upto_region 4 with (go_at_call 13; refine (newWriter_any _).mono ?_; rintro e W2' ⟨rfl, hw2⟩; subst W2')
  generalize w.alloc (.cells #[.slice none 0 0] 64) = W2 at *
  go_upto_region 5 with (go_at_call 15; refine (wU64 _ [] n hU _ (by simp) hW.out).mono ?_; rintro e W4 ⟨rfl, hW4, hF4⟩; have HW4 := hide hW4; have B4 := hide (Wfr.below B2.out (Nat.le_refl _) hQ.out hF4); clear hW4 hF4)
  rw [List.nil_append] at HW4
  go_wp2_with (go_at_call 17; refine (wText _ _ _ HW4.out).mono ?_; rintro e W5 ⟨rfl, hw5⟩; subst W5)
  rw [hX.out]
  go_ret2
  exact ⟨rfl, B4.out⟩
/-- What TakeShort answers: the number and the error. -/
def takeS (s : ByteArray) (p : Int) : Nat × Int :=
  if p < 0 ∨ (s.size : Int) < p then (0, 1) else if (s.size : Int) - p < 6 then (0, 4) else (leN ((s.data.toList.drop p.toNat).take 6), 0)
theorem take_arg (s : ByteArray) (p : Int) (hp : p < 0 ∨ (s.size : Int) < p) (w : World) : Calls Tryd.prog 9 #[.string s, .int .i64 p] w fun e w' => e = .returned (.tuple #[.int .u64 0, .int .i64 1]) ∧ Below w.heap.size w w' := by
  by_cases h1 : p < 0
  · go_enter Tryd.func9, Tryd.ntmps9
    go_wp2
    go_ret2
    exact ⟨rfl, Below.refl _ _⟩
  · have h2 : (s.size : Int) < p := by omega
    go_enter Tryd.func9, Tryd.ntmps9
    go_wp2
    go_ret2
    exact ⟨rfl, Below.refl _ _⟩
theorem len_le {d : ByteArray} {k : Nat} (h : d.size ≤ k) : d.data.toList.length ≤ k := by
  rw [Array.length_toList]
  exact h
theorem take_cut (s : ByteArray) (p : Nat) (hp : p ≤ s.size) (_hs : s.size ≤ 9223372036854775807) (h6 : s.size - p < 6) (w : World) : Calls Tryd.prog 9 #[.string s, .int .i64 (p : Int)] w fun e w' => e = .returned (.tuple #[.int .u64 0, .int .i64 4]) ∧ Below w.heap.size w w' := by
  have n1 : ¬ (p : Int) < 0 := by omega
  have n2 : ¬ (s.size : Int) < p := by omega
  have n3 : (p : Int) ≤ s.size := by omega
  have n4 : (0 : Int) ≤ p := by omega
  obtain ⟨S, hS⟩ : ∃ S, S = s.extract p s.size := ⟨_, rfl⟩
  have hSz : S.size = s.size - p := by rw [hS, ByteArray.size_extract]; omega
  obtain ⟨p1, e1, d1, hq1, hp0, hp1⟩ : ∃ p1 e1 d1, rtake S 0 0 4 = (p1, e1, d1) ∧ 0 ≤ p1 ∧ p1 ≤ S.size := by
    have := rtake_inv S 0 0 4 (by omega) (by omega)
    exact ⟨_, _, _, rfl, this.1, this.2⟩
  obtain ⟨p2, e2, d2, hq2⟩ : ∃ p2 e2 d2, rtake S p1 e1 2 = (p2, e2, d2) := ⟨_, _, _, rfl⟩
  have he2 : e2 = 4 := by
    unfold rtake at hq1
    rw [if_neg (by simp), if_neg (by omega)] at hq1
    by_cases h4 : (S.size : Int) - 0 < 4
    · rw [if_pos h4] at hq1
      cases hq1
      unfold rtake at hq2
      rw [if_pos (by decide)] at hq2
      cases hq2
      rfl
    · rw [if_neg h4] at hq1
      cases hq1
      unfold rtake at hq2
      rw [if_neg (by decide), if_neg (by omega), if_pos (by omega)] at hq2
      cases hq2
      rfl
  subst he2
  have HR1 := hide fun b W hW => rU32 b S W 0 0 hW (by unfold maxLen; omega) (by omega) (by omega)
  have HR2 := hide fun b W hW => rU16 b S W p1 e1 hW (by unfold maxLen; omega) hp0 hp1
  have z1 := rtake_size S 0 0 4 4 rfl (by omega)
  have z2 := rtake_size S p1 e1 2 2 rfl hp0
  rw [hq1] at HR1 z1
  rw [hq2] at HR2 z2
  have g1 : leN d1.data.toList < 4294967296 := leN_lt' _ 4 _ (len_le z1) (by decide)
  have g2 : leN d2.data.toList < 65536 := leN_lt' _ 2 _ (len_le z2) (by decide)
  simp only at HR1 HR2
  generalize leN d1.data.toList = A at *
  generalize leN d2.data.toList = B at *
  clear hq1 hq2 z1 z2
  have w1 : IntKind.u64.wrap (A : Int) = A := wrapu _ (by omega) (by omega)
  have w2 : IntKind.u64.wrap (B : Int) = B := wrapu _ (by omega) (by omega)
  go_enter Tryd.func9, Tryd.ntmps9
  go_upto_region 4 with (go_at_call 18; refine (newReader_any _ _).mono ?_; rintro e W8' ⟨rfl, hw8⟩; subst W8')
  have hRd : Hid (Rst (w.alloc (.cells #[.string (s.extract p s.size), .int .i64 0, .int .i64 0] 68)) w.heap.size S 0 0) := by rw [hS]; exact heap_alloc_last _ _
  have B8 := hide ((Below.refl w.heap.size w).alloc (Nat.le_refl _) (.cells #[.string (s.extract p s.size), .int .i64 0, .int .i64 0] 68))
  generalize w.alloc (.cells #[.string (s.extract p s.size), .int .i64 0, .int .i64 0] 68) = W8 at *
  go_upto_region 5 with (go_at_call 22; refine (HR1.out _ _ hRd.out).mono ?_; rintro e W9 ⟨rfl, h9, f9⟩; have hRd9 := hide h9; have F9 := hide f9; clear h9 f9)
  go_upto_region 6 with (go_at_call 23; refine (HR2.out _ _ hRd9.out).mono ?_; rintro e W10 ⟨rfl, h10, f10⟩; have hRd10 := hide h10; have F10 := hide (F9.out.trans f10); clear h10 f10)
  have B10 := hide (B8.out.trans (F10.out.to_below (Nat.le_refl _) B8.out.size))
  clear B8 F9 F10 hRd hRd9
  go_wp2_with (go_at_call 24; refine (rErr _ _ _ _ _ hRd10.out).mono ?_; rintro e W11 ⟨rfl, hw11⟩; subst W11)
  go_ret2
  exact ⟨rfl, B10.out⟩
theorem take_good (s : ByteArray) (p : Nat) (hp : p ≤ s.size) (hs : s.size ≤ 9223372036854775807) (h6 : 6 ≤ s.size - p) (w : World) : Calls Tryd.prog 9 #[.string s, .int .i64 (p : Int)] w fun e w' => e = .returned (.tuple #[.int .u64 (leN ((s.data.toList.drop p).take 6) : Int), .int .i64 0]) ∧ Below w.heap.size w w' := by
  have n1 : ¬ (p : Int) < 0 := by omega
  have n2 : ¬ (s.size : Int) < p := by omega
  have n3 : (p : Int) ≤ s.size := by omega
  have n4 : (0 : Int) ≤ p := by omega
  obtain ⟨S, hS⟩ : ∃ S, S = s.extract p s.size := ⟨_, rfl⟩
  have hSz : S.size = s.size - p := by rw [hS, ByteArray.size_extract]; omega
  have hq1 : rtake S 0 0 4 = (4, 0, S.extract 0 4) := by
    unfold rtake
    rw [if_neg (by simp), if_neg (by omega), if_neg (by omega)]
    rfl
  have hq2 : rtake S 4 0 2 = (6, 0, S.extract 4 6) := by
    unfold rtake
    rw [if_neg (by simp), if_neg (by omega), if_neg (by omega)]
    rfl
  have HR1 := hide fun b W hW => rU32 b S W 0 0 hW (by unfold maxLen; omega) (by omega) (by omega)
  have HR2 := hide fun b W hW => rU16 b S W 4 0 hW (by unfold maxLen; omega) (by omega) (by omega)
  have z1 := rtake_size S 0 0 4 4 rfl (by omega)
  have z2 := rtake_size S 4 0 2 2 rfl (by omega)
  rw [hq1] at HR1 z1
  rw [hq2] at HR2 z2
  have g1 : leN (S.extract 0 4).data.toList < 4294967296 := leN_lt' _ 4 _ (len_le z1) (by decide)
  have g2 : leN (S.extract 4 6).data.toList < 65536 := leN_lt' _ 2 _ (len_le z2) (by decide)
  simp only at HR1 HR2 g1 g2
  have hAB : Hid (leN ((s.data.toList.drop p).take 6) = leN (S.extract 0 4).data.toList + 4294967296 * leN (S.extract 4 6).data.toList) := by
    have hSl : S.data.toList = s.data.toList.drop p := by rw [hS]; exact ext_list s p
    show leN ((s.data.toList.drop p).take 6) = _
    rw [ext_take, ext_take, hSl, List.drop_zero]
    have e : (s.data.toList.drop p).take 6 = (s.data.toList.drop p).take 4 ++ ((s.data.toList.drop p).drop 4).take 2 := by rw [← List.take_add]
    have hl4 : ((s.data.toList.drop p).take 4).length = 4 := by rw [List.length_take, List.length_drop]; simp; omega
    rw [e, leN_app, hl4]
  generalize leN (S.extract 0 4).data.toList = A at *
  generalize leN (S.extract 4 6).data.toList = B at *
  clear hq1 hq2 z1 z2
  have hO : Hid (bits .or .u64 ((B : Int) * 4294967296) (A : Int) = ((A + 4294967296 * B : Nat) : Int)) := by
    have hw : (B : Int) * 4294967296 = ((4294967296 * B : Nat) : Int) := by omega
    show bits .or .u64 ((B : Int) * 4294967296) (A : Int) = _
    rw [hw, or_nat64 _ _ (by omega) (by omega)]
    congr 1
    have := Nat.two_pow_add_eq_or_of_lt (show A < 2 ^ 32 by omega) B
    rw [show (4294967296 : Nat) = 2 ^ 32 from rfl, ← this]
    omega
  have w1 : IntKind.u64.wrap (A : Int) = A := wrapu _ (by omega) (by omega)
  have w2 : IntKind.u64.wrap (B : Int) = B := wrapu _ (by omega) (by omega)
  go_enter Tryd.func9, Tryd.ntmps9
  go_upto_region 4 with (go_at_call 18; refine (newReader_any _ _).mono ?_; rintro e W8' ⟨rfl, hw8⟩; subst W8')
  have hRd : Hid (Rst (w.alloc (.cells #[.string (s.extract p s.size), .int .i64 0, .int .i64 0] 68)) w.heap.size S 0 0) := by rw [hS]; exact heap_alloc_last _ _
  have B8 := hide ((Below.refl w.heap.size w).alloc (Nat.le_refl _) (.cells #[.string (s.extract p s.size), .int .i64 0, .int .i64 0] 68))
  generalize w.alloc (.cells #[.string (s.extract p s.size), .int .i64 0, .int .i64 0] 68) = W8 at *
  go_upto_region 5 with (go_at_call 22; refine (HR1.out _ _ hRd.out).mono ?_; rintro e W9 ⟨rfl, h9, f9⟩; have hRd9 := hide h9; have F9 := hide f9; clear h9 f9)
  go_upto_region 6 with (go_at_call 23; refine (HR2.out _ _ hRd9.out).mono ?_; rintro e W10 ⟨rfl, h10, f10⟩; have hRd10 := hide h10; have F10 := hide (F9.out.trans f10); clear h10 f10)
  have B10 := hide (B8.out.trans (F10.out.to_below (Nat.le_refl _) B8.out.size))
  clear B8 F9 F10 hRd hRd9
  go_wp2_with (go_at_call 24; refine (rErr _ _ _ _ _ hRd10.out).mono ?_; rintro e W11 ⟨rfl, hw11⟩; subst W11)
  go_ret2
  exact ⟨by rw [hAB.out, ← hO.out]; rfl, B10.out⟩
end
end Go.Proofs.YtpjpnkohagcegaaDoor
