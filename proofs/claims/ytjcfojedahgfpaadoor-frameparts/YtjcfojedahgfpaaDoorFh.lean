/- Frames: the contracts of readHead and Decode. -/
import Derived.Test.YtjcfojedahgfpaaDoorFg
namespace Go.Proofs.YtjcfojedahgfpaaDoor
open Go.RowKit
open Go.Deep
def hz3 : Array Value := #[.string ⟨#[]⟩, .int .i64 0, .int .u32 0]
def hd3 (h : Hd) : Array Value := #[.string (txt h.cmd), .int .i64 (h.long : Int), .int .u32 (h.sum : Int)]
theorem AH : Arr 67 3 hz3 := ⟨.inr ⟨_, Tryd.underlying67⟩, by kernel_rfl, fun w => by kernel_rfl, fun w => by kernel_rfl, rfl⟩
def fz2 : Array Value := #[.string ⟨#[]⟩, .string ⟨#[]⟩]
def fr2 (c p : List UInt8) : Array Value := #[.string (txt c), .string (txt p)]
theorem AF : Arr 24 2 fz2 := ⟨.inr ⟨_, Tryd.underlying24⟩, by kernel_rfl, fun w => by kernel_rfl, fun w => by kernel_rfl, rfl⟩
theorem hd3_one (h : Hd) : (hd3 h).all (·.oneCell') = true := by
  have e1 : ∀ k x, (Value.int k x).oneCell' = true := fun _ _ => rfl
  have e2 : ∀ s, (Value.string s).oneCell' = true := fun _ => rfl
  simp [hd3, e1, e2]
theorem fr2_one (c p : List UInt8) : (fr2 c p).all (·.oneCell') = true := by
  have e2 : ∀ s, (Value.string s).oneCell' = true := fun _ => rfl
  simp [fr2, e2]
theorem hz3_one : hz3.all (·.oneCell') = true := hd3_one ⟨0, [], 0, 0⟩
theorem fz2_one : fz2.all (·.oneCell') = true := fr2_one [] []
theorem resA2 {t : TypeId} {n : Nat} {z : Array Value} (A : Arr t n z) {fn : Func} {p u : Tmp} (hf : fn.results = #[.cell p t, .tmp u]) (tmps : Array Value) (w : World) (g : Nat) (t' : TypeId) (c : Array Value) (hn : c.size = n)
    (hp : tmps.getD p undef = .pointer (some ⟨g, 0, none⟩)) (hg : w.heap[g]? = some (.cells c t' (0, 0))) (x : Value) (hx : tmps.getD u undef = x) : (results fn tmps).run Tryd.prog w = .ok (.tuple #[.agg c, x]) w := by
  subst hx
  have hp' : tmps[p]?.getD undef = .pointer (some ⟨g, 0, none⟩) := by simpa using hp
  rcases A.und with ⟨m, e, hd⟩ | ⟨fs, hd⟩ <;> simp [results, hf, hp', asAddr, run_loadVar_row w g t' t c (0, 0) _ hg hd rfl (by rw [A.info, hn])]
theorem resA3 {t : TypeId} {n : Nat} {z : Array Value} (A : Arr t n z) {fn : Func} {p u v : Tmp} (hf : fn.results = #[.cell p t, .tmp u, .tmp v]) (tmps : Array Value) (w : World) (g : Nat) (t' : TypeId) (c : Array Value) (hn : c.size = n)
    (hp : tmps.getD p undef = .pointer (some ⟨g, 0, none⟩)) (hg : w.heap[g]? = some (.cells c t' (0, 0))) (x : Value) (hx : tmps.getD u undef = x) (y : Value) (hy : tmps.getD v undef = y) : (results fn tmps).run Tryd.prog w = .ok (.tuple #[.agg c, x, y]) w := by
  subst hx hy
  have hp' : tmps[p]?.getD undef = .pointer (some ⟨g, 0, none⟩) := by simpa using hp
  rcases A.und with ⟨m, e, hd⟩ | ⟨fs, hd⟩ <;> simp [results, hf, hp', asAddr, run_loadVar_row w g t' t c (0, 0) _ hg hd rfl (by rw [A.info, hn])]
theorem trimB (l : List UInt8) : Lib.trimRightB l 0 = trimZ l := rfl
section
set_option maxRecDepth 10000
set_option maxHeartbeats 1000000
theorem rBytes_any (b : Nat) (s : ByteArray) (w : World) (p : Int) (n : Nat) (h : Rst w b s p 0) (hs : s.size ≤ maxLen) (h0 : 0 ≤ p) (h1 : p ≤ s.size) (hn : n ≤ 100) : Calls Tryd.prog 52 #[.pointer (some ⟨b, 0, none⟩), .int .i64 (n : Int)] w fun e w' => e = .returned (.string (rtake s p 0 n).2.2) ∧ Rst w' b s (rtake s p 0 n).1 (rtake s p 0 n).2.1 ∧ Rfr b w w' := by
  have HT := hide (rTake b s w p 0 n h hs h0 h1 (by omega) (by omega))
  clear h hs h0 h1
  generalize rtake s p 0 n = R at *
  go_enter Tryd.func52, Tryd.ntmps52
  go_wp2_with (go_at_call 47; refine HT.out.mono ?_; rintro e w1 ⟨rfl, r1, f1⟩)
  go_ret
  exact ⟨rfl, r1, f1⟩
theorem rtake_ok (s : ByteArray) (p n : Nat) (h : p + n ≤ s.size) : rtake s (p : Int) 0 (n : Int) = (((p + n : Nat) : Int), 0, s.extract p (p + n)) := by
  unfold rtake
  rw [if_neg (by simp), if_neg (by omega), if_neg (by omega)]
  rfl
theorem readHead_any (m : Nat) (hm : m < 4294967296) (s : ByteArray) (hs : s.size ≤ maxLen) (w : World) : Calls Tryd.prog 34 #[.int .u32 m, .string s] w fun e w' => e = .returned (.tuple #[.agg (hd3 (headM m s.data.toList)), .int .i64 (headM m s.data.toList).err]) ∧ Below w.heap.size w w' := by
  have HM := hide fun W => magicBytes_any m hm W
  have HL := hide fun W => beginsLike_any m s hs W
  have HXB : Hid (24 ≤ s.size → ∀ W b, Rst W b (s.extract 4 24) 0 0 → Calls Tryd.prog 52 #[.pointer (some ⟨b, 0, none⟩), .int .i64 12] W fun e w' => e = .returned (.string (txt ((s.data.toList.drop 4).take 12))) ∧ Rst w' b (s.extract 4 24) 12 0 ∧ Rfr b W w') := by
    intro h24 W b h
    have hz := exs s 4 24 h24
    have hr := rtake_ok (s.extract 4 24) 0 12 (by omega)
    have ht : (s.extract 4 24).extract 0 (0 + 12) = txt ((s.data.toList.drop 4).take 12) := by
      apply ByteArray.ext
      rw [← Array.toList_inj, exl _ 0 (0 + 12) 12 rfl, exl s 4 24 20 rfl, List.drop_zero, List.take_take]
      rfl
    rw [ht] at hr
    have := rBytes_any b (s.extract 4 24) W 0 12 h (by rw [hz]; unfold maxLen; decide) (by omega) (by omega) (by omega)
    rw [show ((12 : Nat) : Int) = 12 from rfl, show ((0 : Nat) : Int) = 0 from rfl] at *
    rw [hr] at this
    exact this
  have HU : Hid (24 ≤ s.size → ∀ (p : Nat), p + 4 ≤ 20 → ∀ W b, Rst W b (s.extract 4 24) (p : Int) 0 → Calls Tryd.prog 31 #[.pointer (some ⟨b, 0, none⟩)] W fun e w' => e = .returned (.int .u32 (leN ((s.data.toList.drop (4 + p)).take 4))) ∧ Rst w' b (s.extract 4 24) ((p + 4 : Nat) : Int) 0 ∧ Rfr b W w') := by
    intro h24 p hp W b h
    have hz := exs s 4 24 h24
    have hr := rtake_ok (s.extract 4 24) p 4 (by omega)
    have ht : ((s.extract 4 24).extract p (p + 4)).data.toList = (s.data.toList.drop (4 + p)).take 4 := by
      rw [exl _ p (p + 4) 4 (by omega), exl s 4 24 20 rfl, List.drop_take, List.drop_drop, List.take_take, Nat.min_eq_left (by omega)]
    have := rU32 b (s.extract 4 24) W p 0 h (by rw [hz]; unfold maxLen; decide) (by omega) (by omega)
    rw [show (4 : Int) = ((4 : Nat) : Int) from rfl, hr] at this
    simp only [ht] at this
    exact this
  have HTR : Hid (∀ W, Calls Tryd.prog 51 #[.string (txt ((s.data.toList.drop 4).take 12)), .string ⟨#[0]⟩] W fun e w' => e = .returned (.string (txt (trimZ ((s.data.toList.drop 4).take 12)))) ∧ w' = W) := fun W => strings_TrimRight_one (txt ((s.data.toList.drop 4).take 12)) 0 (by decide) W (by rw [txt_size]; simp; omega)
  have HCM : Hid (∀ W, Calls Tryd.prog 9 #[.string (txt (trimZ ((s.data.toList.drop 4).take 12)))] W fun e w' => e = .returned (.bool (okCmd (trimZ ((s.data.toList.drop 4).take 12)))) ∧ w' = W) := fun W => by
    have := command_any (txt (trimZ ((s.data.toList.drop 4).take 12))) W (by
      rw [txt_size, trimZ, List.length_reverse]
      have h1 := List.Sublist.length_le (List.dropWhile_sublist (l := ((s.data.toList.drop 4).take 12).reverse) (fun x => x == 0))
      have h2 : ((s.data.toList.drop 4).take 12).reverse.length ≤ 12 := by simp; omega
      unfold maxLen
      omega)
    rwa [txt_list] at this
  generalize hR : headM m s.data.toList = R
  have HR := hide hR
  clear hR
  unfold headM at HR
  rw [show s.data.toList.length = s.size by simp] at HR
  unfold maxLen at hs
  have hq := leN_lt' ((s.data.toList.drop 16).take 4) 4 4294967296 (by simp; omega) (by decide)
  have HU1 := hide fun h => HU.out h 12 (by omega)
  have HU2 := hide fun h => HU.out h 16 (by omega)
  simp only [Nat.reduceAdd] at HU1 HU2
  clear HU
  generalize leN ((s.data.toList.drop 16).take 4) = q at *
  generalize leN ((s.data.toList.drop 20).take 4) = q2 at *
  generalize (s.data.toList.drop 4).take 12 = c12 at *
  generalize trimZ c12 = c at *
  have B1 : Hid (Below w.heap.size w (w.alloc (.cells hz3 67))) := (Below.refl _ _).alloc (Nat.le_refl _) _
  have R1 := hide (heap_alloc_last w (.cells hz3 67))
  cases hlk : likeM m s.data.toList with
  | false =>
    rw [hlk] at HR HL
    rw [if_pos rfl] at HR
    go_enter Tryd.func34, Tryd.ntmps34
    go_upto_region 2 with (first | refine wpList_allocA AH rfl rfl ?_ | (go_at_call 50; refine (HM.out _).mono ?_; rintro e w2 ⟨rfl, b2⟩) | (go_at_call 49; refine (HL.out _).mono ?_; rintro e w3 ⟨rfl, nq, rfl⟩))
    have R2 : Hid ((w2.drewN nq).heap[w.heap.size]? = some (.cells hz3 67 (0, 0))) := (b2.block _ (lt_heap R1.out)).trans R1.out
    have B2 := hide (below_drewN (below_next B1.out b2) nq)
    clear b2 R1 B1
    generalize w2.drewN nq = W2 at *
    go_wp2_with (first | refine wpList_buildA AH rfl rfl ?_ | refine wpList_storeA AH rfl _ _ rfl w.heap.size hz3 rfl hz3_one rfl rfl hz3 rfl 67 R2.out ?_)
    exact bodyPost_ret (v := .tuple #[.agg hz3, .int .i64 80]) (resA2 AH Tryd.results34 _ _ w.heap.size 67 hz3 rfl rfl (setRow_heap _ _ _ _ _ _ R2.out) _ (by rfl)) rfl ⟨by rw [← HR.out]; rfl, below_setRow B2.out (Nat.le_refl _) _⟩
  | true =>
    rw [hlk] at HR HL
    rw [if_neg (by decide)] at HR
    by_cases h24 : (s.size : Int) < 24
    · rw [if_pos (by omega)] at HR
      go_enter Tryd.func34, Tryd.ntmps34
      go_upto_region 3 with (first | refine wpList_allocA AH rfl rfl ?_ | (go_at_call 50; refine (HM.out _).mono ?_; rintro e w2 ⟨rfl, b2⟩) | (go_at_call 49; refine (HL.out _).mono ?_; rintro e w3 ⟨rfl, nq, rfl⟩))
      have R2 : Hid ((w2.drewN nq).heap[w.heap.size]? = some (.cells hz3 67 (0, 0))) := (b2.block _ (lt_heap R1.out)).trans R1.out
      have B2 := hide (below_drewN (below_next B1.out b2) nq)
      clear b2 R1 B1
      generalize w2.drewN nq = W2 at *
      go_wp2_with (first | refine wpList_buildA AH rfl rfl ?_ | refine wpList_storeA AH rfl _ _ rfl w.heap.size hz3 rfl hz3_one rfl rfl hz3 rfl 67 R2.out ?_)
      exact bodyPost_ret (v := .tuple #[.agg hz3, .int .i64 4]) (resA2 AH Tryd.results34 _ _ w.heap.size 67 hz3 rfl rfl (setRow_heap _ _ _ _ _ _ R2.out) _ (by rfl)) rfl ⟨by rw [← HR.out]; rfl, below_setRow B2.out (Nat.le_refl _) _⟩
    · have h24n : 24 ≤ s.size := by omega
      rw [if_neg (by omega)] at HR
      have HXB := hide (HXB.out h24n)
      have HU1 := hide (HU1.out h24n)
      have HU2 := hide (HU2.out h24n)
      go_enter Tryd.func34, Tryd.ntmps34
      go_upto_region 3 with (first | refine wpList_allocA AH rfl rfl ?_ | (go_at_call 50; refine (HM.out _).mono ?_; rintro e w2 ⟨rfl, b2⟩) | (go_at_call 49; refine (HL.out _).mono ?_; rintro e w3 ⟨rfl, nq, rfl⟩))
      have R2 : Hid ((w2.drewN nq).heap[w.heap.size]? = some (.cells hz3 67 (0, 0))) := (b2.block _ (lt_heap R1.out)).trans R1.out
      have B2 := hide (below_drewN (below_next B1.out b2) nq)
      clear b2 R1 B1
      generalize w2.drewN nq = W2 at *
      go_upto_region 6 with (go_at_call 30; refine (newReader_any _ _).mono ?_; rintro e w4 ⟨rfl, rfl⟩)
      have J4 : Hid (Rst (W2.alloc (.cells #[.string (s.extract 4 24), .int .i64 0, .int .i64 0] 94)) W2.heap.size (s.extract 4 24) 0 0) := heap_alloc_last _ _
      have b4 : Below W2.heap.size W2 (W2.alloc (.cells #[.string (s.extract 4 24), .int .i64 0, .int .i64 0] 94)) := (Below.refl _ _).alloc (Nat.le_refl _) _
      have R4 := hide ((b4.block _ (lt_heap R2.out)).trans R2.out)
      have B4 := hide (below_next B2.out b4)
      have hg : Hid (w.heap.size < W2.heap.size) := lt_heap R2.out
      clear b4 R2 B2
      generalize W2.alloc (.cells #[.string (s.extract 4 24), .int .i64 0, .int .i64 0] 94) = W4 at *
      generalize W2.heap.size = gr at *
      go_upto_region 7 with (first | (go_at_call 52; refine (HXB.out _ _ J4.out).mono ?_; rintro e w5 ⟨rfl, r5, f5⟩; have J5 := hide r5; have R5 := hide ((f5.block _ (lt_heap R4.out) (Nat.ne_of_lt hg.out)).trans R4.out); have B5 := hide (B4.out.trans (f5.to_below (Nat.le_of_lt hg.out) B4.out.size)); clear r5 f5) | (go_at_call 51; refine (HTR.out _).mono ?_; rintro e w6 ⟨rfl, hw6⟩; subst w6))
      clear J4 R4 B4
      go_upto_region 8 with (first | (go_at_call 31; refine (HU1.out _ _ J5.out).mono ?_; rintro e w7 ⟨rfl, r7, f7⟩; have J7 := hide r7; have R7 := hide ((f7.block _ (lt_heap R5.out) (Nat.ne_of_lt hg.out)).trans R5.out); have B7 := hide (B5.out.trans (f7.to_below (Nat.le_of_lt hg.out) B5.out.size)); clear r7 f7 J5 R5 B5) | (go_at_call 31; refine (HU2.out _ _ J7.out).mono ?_; rintro e w8 ⟨rfl, r8, f8⟩; have R8 := hide ((f8.block _ (lt_heap R7.out) (Nat.ne_of_lt hg.out)).trans R7.out); have B8 := hide (B7.out.trans (f8.to_below (Nat.le_of_lt hg.out) B7.out.size)); clear r8 f8))
      clear R7 B7 J7
      cases hC : okCmd c with
      | false =>
        rw [hC] at HR HCM
        rw [if_pos rfl] at HR
        go_wp2_with (first | (go_at_call 9; refine (HCM.out _).mono ?_; rintro e w9 ⟨rfl, hw9⟩; subst w9) | refine wpList_buildA AH rfl rfl ?_ | refine wpList_storeA AH rfl _ _ rfl w.heap.size hz3 rfl hz3_one rfl rfl hz3 rfl 67 R8.out ?_)
        exact bodyPost_ret (v := .tuple #[.agg hz3, .int .i64 81]) (resA2 AH Tryd.results34 _ _ w.heap.size 67 hz3 rfl rfl (setRow_heap _ _ _ _ _ _ R8.out) _ (by rfl)) rfl ⟨by rw [← HR.out]; rfl, below_setRow B8.out (Nat.le_refl _) _⟩
      | true =>
        rw [hC] at HR HCM
        rw [if_neg (by decide)] at HR
        by_cases hq2 : (16384 : Int) < q
        · rw [if_pos (by omega)] at HR
          go_wp2_with (first | (go_at_call 9; refine (HCM.out _).mono ?_; rintro e w9 ⟨rfl, hw9⟩; subst w9) | refine wpList_buildA AH rfl rfl ?_ | refine wpList_storeA AH rfl _ _ rfl w.heap.size hz3 rfl hz3_one rfl rfl hz3 rfl 67 R8.out ?_)
          exact bodyPost_ret (v := .tuple #[.agg hz3, .int .i64 82]) (resA2 AH Tryd.results34 _ _ w.heap.size 67 hz3 rfl rfl (setRow_heap _ _ _ _ _ _ R8.out) _ (by rfl)) rfl ⟨by rw [← HR.out]; rfl, below_setRow B8.out (Nat.le_refl _) _⟩
        · rw [if_neg (by omega)] at HR
          go_wp2_with (first | (go_at_call 9; refine (HCM.out _).mono ?_; rintro e w9 ⟨rfl, hw9⟩; subst w9) | refine wpList_storeA AH rfl _ _ rfl w.heap.size (hd3 ⟨0, c, q, q2⟩) rfl (hd3_one _) rfl rfl hz3 rfl 67 R8.out ?_)
          exact bodyPost_ret (v := .tuple #[.agg (hd3 ⟨0, c, q, q2⟩), .int .i64 0]) (resA2 AH Tryd.results34 _ _ w.heap.size 67 (hd3 ⟨0, c, q, q2⟩) rfl rfl (setRow_heap _ _ _ _ _ _ R8.out) _ (by rfl)) rfl ⟨by rw [← HR.out], below_setRow B8.out (Nat.le_refl _) _⟩
end
end Go.Proofs.YtjcfojedahgfpaaDoor
