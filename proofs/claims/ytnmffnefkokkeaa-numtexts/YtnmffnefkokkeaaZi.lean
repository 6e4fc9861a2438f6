/- The law NumTexts: its walk. -/
import Derived.Test.YtnmffnefkokkeaaZj
import Derived.Deep.CutRange
namespace Go.Proofs.Ytnmffnefkokkeaa
open Go.RowKit
open Go.Deep
theorem parseH_len (s : ByteArray) : (parseH s).length = 32 := by
  unfold parseH
  by_cases h : (parseS s).2 < 0
  · rw [if_pos h, List.length_reverse, unhexL_len]
    have hgl := good_le s.data.toList
    have hsz : s.data.toList.length = s.size := by simp
    by_cases h2 : min (good s.data.toList) 64 < 64 ∨ 64 < s.size
    · unfold parseS at h
      rw [if_pos h2] at h
      exact absurd h (by simp)
    · omega
  · rw [if_neg h, zeros_len]
theorem parse_case (s : ByteArray) : ((parseS s).2 < 0 ∧ (parseS s).1 = ⟨(parseH s).toArray⟩) ∨ (0 ≤ (parseS s).2 ∧ parseH s = zeros) := by
  unfold parseH
  by_cases h : (parseS s).2 < 0
  · refine .inl ⟨h, ?_⟩
    rw [if_pos h]
    by_cases h2 : min (good s.data.toList) 64 < 64 ∨ 64 < s.size
    · unfold parseS at h
      rw [if_pos h2] at h
      exact absurd h (by simp)
    · unfold parseS
      rw [if_neg h2]
  · exact .inr ⟨by omega, by rw [if_neg h]⟩
theorem text_mid {w w1 w2 w3 : World} {h g : List UInt8} (b1 : Below ((w.alloc (.cells (hc h) 33)).alloc (.cells (hc g) 33)).heap.size ((w.alloc (.cells (hc h) 33)).alloc (.cells (hc g) 33)) w1) (b2 : Below w1.heap.size w1 w2) (b3 : Below w2.heap.size w2 w3) :
    Hid (w3.heap[w.heap.size]? = some (.cells (hc h) 33 (0, 0))) ∧ Hid (w3.heap[w.heap.size + 1]? = some (.cells (hc g) 33 (0, 0))) ∧ Hid (Below w.heap.size w w3) := by
  have hN : ((w.alloc (.cells (hc h) 33)).alloc (.cells (hc g) 33)).heap.size = w.heap.size + 1 + 1 := by simp
  rw [hN] at b1
  have s1 := b1.size
  have s2 := b2.size
  have b := (b1.trans (b2.mono (by omega))).trans (b3.mono (by omega))
  exact ⟨(b.block _ (by omega)).trans (heap_alloc2_old w _ _), (b.block _ (by omega)).trans (heap_alloc2_new w _ _), (two_below w _ _).trans (b.mono (by omega))⟩
theorem text_mid2 {w w3 w4 : World} {h g X : List UInt8} (h3 : w3.heap[w.heap.size]? = some (.cells (hc h) 33 (0, 0))) (g3 : w3.heap[w.heap.size + 1]? = some (.cells (hc g) 33 (0, 0))) (B3 : Below w.heap.size w w3) (b4 : Below (w3.alloc (.cells (hc X) 33)).heap.size (w3.alloc (.cells (hc X) 33)) w4) :
    Hid (w4.heap[w.heap.size]? = some (.cells (hc h) 33 (0, 0))) ∧ Hid (w4.heap[w.heap.size + 1]? = some (.cells (hc g) 33 (0, 0))) ∧ Hid (w4.heap[w3.heap.size]? = some (.cells (hc X) 33 (0, 0))) ∧ Hid (Below w.heap.size w w4) := by
  have hN : (w3.alloc (.cells (hc X) 33)).heap.size = w3.heap.size + 1 := by simp
  rw [hN] at b4
  have l1 := lt_heap h3
  have l2 := lt_heap g3
  exact ⟨(b4.block _ (by omega)).trans ((Below.heap_alloc _ _ _ l1).trans h3), (b4.block _ (by omega)).trans ((Below.heap_alloc _ _ _ l2).trans g3), (b4.block _ (by omega)).trans (heap_alloc_new _ _), (B3.alloc B3.size _).trans (b4.mono (by omega))⟩
theorem text_mid3 {w w4 w5 : World} {h g X : List UInt8} {m : Nat} (h4 : w4.heap[w.heap.size]? = some (.cells (hc h) 33 (0, 0))) (g4 : w4.heap[w.heap.size + 1]? = some (.cells (hc g) 33 (0, 0))) (x4 : w4.heap[m]? = some (.cells (hc X) 33 (0, 0))) (B4 : Below w.heap.size w w4) (b5 : Below w4.heap.size w4 w5) :
    Hid (w5.heap[w.heap.size]? = some (.cells (hc h) 33 (0, 0))) ∧ Hid (w5.heap[w.heap.size + 1]? = some (.cells (hc g) 33 (0, 0))) ∧ Hid (w5.heap[m]? = some (.cells (hc X) 33 (0, 0))) ∧ Hid (Below w.heap.size w w5) :=
  ⟨(b5.block _ (lt_heap h4)).trans h4, (b5.block _ (lt_heap g4)).trans g4, (b5.block _ (lt_heap x4)).trans x4, B4.trans (b5.mono B4.size)⟩
/-- The load of a hash, under a name that the walk does not open. -/
def lh33 (x : Value) : Sem Value := Instr.loadAt 33 x
theorem lh33_eq (x : Value) : Instr.loadAt 33 x = lh33 x := rfl
attribute [local go_sem ↓] lh33_eq
theorem lhz {W : World} {g : Nat} {l : List UInt8} (h : W.heap[g]? = some (.cells (hc l) 33 (0, 0))) (hl : l.length = 32 := by first | exact zeros_len | assumption) : (lh33 (.pointer (some ⟨g, 0, none⟩))).run Try.prog W = .ok (.agg (hc l)) W := by
  simp only [lh33, Instr.loadAt, Instr.sureAddr, Sem.run_bind, Sem.run_pure, Result.andThen]
  exact run_loadVar_row W g 33 33 (hc l) (0, 0) _ h Try.underlying33 rfl (by rw [info33, hc_size, hl])
theorem eqz' (W : World) : (Op.equalIn 10000 33 (.agg (hc zeros)) (.agg #[.int .u8 0, .int .u8 0, .int .u8 0, .int .u8 0, .int .u8 0, .int .u8 0, .int .u8 0, .int .u8 0, .int .u8 0, .int .u8 0, .int .u8 0, .int .u8 0, .int .u8 0, .int .u8 0, .int .u8 0, .int .u8 0, .int .u8 0, .int .u8 0, .int .u8 0, .int .u8 0, .int .u8 0, .int .u8 0, .int .u8 0, .int .u8 0, .int .u8 0, .int .u8 0, .int .u8 0, .int .u8 0, .int .u8 0, .int .u8 0, .int .u8 0, .int .u8 0])).run Try.prog W = .ok true W := by
  have h := run_equalIn_bytes (P := Try.prog) W 9998 33 5 32 Try.underlying33 Try.underlying5 size5 zeros zeros zeros_len zeros_len
  rw [show (zeros == zeros) = true from by simp] at h
  exact h
theorem eqh (h : List UInt8) (hl : h.length = 32) (W : World) : (Op.equalIn 10000 33 (.agg (hc h)) (.agg (hc h))).run Try.prog W = .ok true W := by
  have e := run_equalIn_bytes (P := Try.prog) W 9998 33 5 32 Try.underlying33 Try.underlying5 size5 h h hl hl
  rw [show (h == h) = true from by simp] at e
  exact e
theorem rHex_below (s : ByteArray) (hs : s.size ≤ 140737488351232) (w : World) : Calls Try.prog 20 #[.string s] w fun e w' => e = .returned (.string ⟨(hexL s.data.toList).toArray⟩) ∧ Below w.heap.size w w' := by
  refine (rHex_big s hs w).mono ?_
  rintro e w' ⟨rfl, n, rfl⟩
  exact ⟨rfl, below_drewN (Below.refl _ _) n⟩
theorem rcompare_below (h g : List UInt8) (hl : h.length = 32) (gl : g.length = 32) (w : World) : Calls Try.prog 23 #[.string ⟨h.toArray⟩, .string ⟨g.toArray⟩] w fun e w' => e = .returned (.int .i64 (cmpK (hb h) (hb g) 32)) ∧ Below w.heap.size w w' := by
  refine (rcompare_any h g hl gl w).mono ?_
  rintro e w' ⟨rfl, n, rfl⟩
  exact ⟨rfl, below_drewN (Below.refl _ _) n⟩
/-- What is known of the world at the law's end: where the hashes lie. -/
structure Jt (w W : World) (m : Nat) (h g : List UInt8) : Prop where
  a : W.heap[w.heap.size]? = some (.cells (hc h) 33 (0, 0))
  b : W.heap[w.heap.size + 1]? = some (.cells (hc g) 33 (0, 0))
  c : W.heap[m]? = some (.cells (hc h) 33 (0, 0))
  below : Below w.heap.size w W
theorem Jt.next {w W W' : World} {m : Nat} {h g : List UInt8} (j : Jt w W m h g) (b : Below W.heap.size W W') : Jt w W' m h g :=
  ⟨(b.block _ (lt_heap j.a)).trans j.a, (b.block _ (lt_heap j.b)).trans j.b, (b.block _ (lt_heap j.c)).trans j.c, j.below.trans (b.mono j.below.size)⟩
theorem Jt.start {w wc w6 w7 : World} {h g : List UInt8} (h5 : wc.heap[w.heap.size]? = some (.cells (hc h) 33 (0, 0))) (g5 : wc.heap[w.heap.size + 1]? = some (.cells (hc g) 33 (0, 0))) (B5 : Below w.heap.size w wc) (b6 : Below wc.heap.size wc w6) (b7 : Below w6.heap.size w6 w7) :
    Jt w (w7.alloc (.cells (hc h) 33)).drew w7.heap.size h g := by
  have b := b6.trans (b7.mono b6.size)
  have h7 := (b.block _ (lt_heap h5)).trans h5
  have g7 := (b.block _ (lt_heap g5)).trans g5
  have B7 := B5.trans (b.mono B5.size)
  exact ⟨(Below.heap_alloc _ _ _ (lt_heap h7)).trans h7, (Below.heap_alloc _ _ _ (lt_heap g7)).trans g7, heap_alloc_new _ _, (B7.alloc B7.size _).drew⟩
theorem Jt.facts {w W : World} {m : Nat} {h g : List UInt8} {Ha Ga : ByteArray} (j : Jt w W m h g) (hl : h.length = 32) (gl : g.length = 32) (hHa : Ha = ⟨h.toArray⟩) (hGa : Ga = ⟨g.toArray⟩) :
    (convert 40 9 (.slice (some ⟨w.heap.size, 0, none⟩) 32 32)).run Try.prog W = .ok (.string Ha) W ∧
    (convert 40 9 (.slice (some ⟨w.heap.size + 1, 0, none⟩) 32 32)).run Try.prog W = .ok (.string Ga) W ∧
    (lh33 (.pointer (some ⟨w.heap.size, 0, none⟩))).run Try.prog W = .ok (.agg (hc h)) W ∧
    (lh33 (.pointer (some ⟨w.heap.size + 1, 0, none⟩))).run Try.prog W = .ok (.agg (hc g)) W ∧
    (lh33 (.pointer (some ⟨m, 0, none⟩))).run Try.prog W = .ok (.agg (hc h)) W := by
  subst hHa hGa
  exact ⟨conv33 W _ h hl 33 j.a, conv33 W _ g gl 33 j.b, lhz j.a hl, lhz j.b gl, lhz j.c hl⟩
theorem wp_region_class_lit {I : Type} {F : I → World} {id : Nat} {Q : Exit → Act → World → Prop} {a : Act} {w : World} {l : List Oper} (hm : Try.prog.follows .mixedOrders = true) (hB : Region.lexB .any l.toArray = true) (i0 : I) (h0 : w.drew = F i0)
    (h : wpQuiet Try.prog l.toArray (fun w' => ∃ i, w' = F i) (fun a' => ∀ w', (∃ i, w' = F i) → Q .normal a' w') l a) : (Code.region id l.toArray true).wp Try.prog Q a w :=
  wp_region_quiet (C := fun w' => ∃ i, w' = F i) hm hB ⟨i0, h0⟩ (by simpa using h)
theorem class_of {I : Type} {F : I → World} {f : FuncId} {args : Array Value} {i : I} {v : Value} (hcl : ∀ i W', Below (F i).heap.size (F i) W' → ∃ j, W' = F j)
    (h : Calls Try.prog f args (F i) fun e w' => e = .returned v ∧ Below (F i).heap.size (F i) w') : Calls Try.prog f args (F i) fun e w'' => e = .returned v ∧ ∃ j, w'' = F j :=
  h.mono fun _ _ ⟨he, hb⟩ => ⟨he, hcl i _ hb⟩
theorem class_of_same {I : Type} {F : I → World} {f : FuncId} {args : Array Value} {i : I} {v : Value}
    (h : Calls Try.prog f args (F i) fun e w' => e = .returned v ∧ w' = F i) : Calls Try.prog f args (F i) fun e w'' => e = .returned v ∧ ∃ j, w'' = F j :=
  h.mono fun _ _ ⟨he, hb⟩ => ⟨he, i, hb⟩
section
set_option maxRecDepth 10000
set_option maxHeartbeats 4000000
theorem numTexts_walk (s : ByteArray) (hs : s.size ≤ 140737488351232) (h g : List UInt8) (hl : h.length = 32) (gl : g.length = 32) (w : World) :
    Calls Try.prog 4 #[.string s, .agg (hc h), .agg (hc g)] w fun e w' => e = .returned (.bool true) ∧ Below w.heap.size w w' := by
  have HU := hide fun W => unhex_any s (by omega) W
  have HRU := hide fun W => runhex_any s (by omega) W
  have HPa := hide fun W => parse_any s (by omega) W
  have HRP := hide fun W => rparse_any s (by omega) W
  have hX := parseH_len s
  have hC2 := parse_case s
  generalize (unhexS s).2 = p at *
  generalize (unhexS s).1 = U at *
  generalize (parseS s).2 = q at *
  generalize (parseS s).1 = Y at *
  generalize parseH s = X at *
  have C1 : Hid ((p < 0 ∧ (if p < 0 then (0 : Int) else p) = 0 ∧ (if p < 0 then (0 : Int) else 10) = 0) ∨ (0 ≤ p ∧ (if p < 0 then (0 : Int) else p) = p ∧ (if p < 0 then (0 : Int) else 10) = 10)) := by
    by_cases hp : p < 0
    · exact .inl ⟨hp, if_pos hp, if_pos hp⟩
    · exact .inr ⟨by omega, if_neg hp, if_neg hp⟩
  have C2 : Hid ((q < 0 ∧ Y = ⟨X.toArray⟩ ∧ (if q < 0 then (0 : Int) else q) = 0 ∧ (if q < 0 then (0 : Int) else 10) = 0) ∨ (0 ≤ q ∧ X = zeros ∧ (if q < 0 then (0 : Int) else q) = q ∧ (if q < 0 then (0 : Int) else 10) = 10)) := by
    by_cases hq : q < 0
    · rcases hC2 with ⟨_, e⟩ | ⟨e, _⟩
      · exact .inl ⟨hq, e, if_pos hq, if_pos hq⟩
      · omega
    · rcases hC2 with ⟨e, _⟩ | ⟨_, e⟩
      · omega
      · exact .inr ⟨by omega, e, if_neg hq, if_neg hq⟩
  clear hC2
  generalize (if p < 0 then (0 : Int) else p) = a1 at *
  generalize (if p < 0 then (0 : Int) else 10) = e1 at *
  generalize (if q < 0 then (0 : Int) else q) = a2 at *
  generalize (if q < 0 then (0 : Int) else 10) = e2 at *
  have HA := hide fun W => awake_any W
  go_enter Try.func4, Try.ntmps4
  go_upto_region 4 with (first | refine wpList_box33 rfl _ rfl h rfl ?_ | refine wpList_box33 rfl _ rfl g rfl ?_ | (go_at_call 14; refine (HU.out _).mono ?_; rintro e w1 ⟨rfl, b1⟩) | (go_at_call 15; refine (HRU.out _).mono ?_; rintro e w2 ⟨rfl, b2⟩) | (go_at_call 16; refine (HPa.out _).mono ?_; rintro e w3 ⟨rfl, b3⟩; obtain ⟨h3, g3, B3⟩ := text_mid b1 b2 b3; clear b1 b2 b3) | refine wpList_alloc33 rfl rfl ?_ | refine wpList_store33_new rfl _ _ rfl _ rfl _ hX rfl rfl zeros_len ?_)
  go_upto_region 5 with (go_at_call 17; refine (HRP.out _).mono ?_; rintro e w4 ⟨rfl, b4⟩; obtain ⟨h4, g4, x4, B4⟩ := text_mid2 h3.out g3.out B3.out b4; clear b4)
  go_cut [77] from 43 to 77 (fun c wx => c = .bool false ∧ Hid (wx.heap[w.heap.size]? = some (.cells (hc h) 33 (0, 0))) ∧ Hid (wx.heap[w.heap.size + 1]? = some (.cells (hc g) 33 (0, 0))) ∧ Hid (wx.heap[w3.heap.size]? = some (.cells (hc X) 33 (0, 0))) ∧ Hid (Below w.heap.size w wx))
  case first =>
    rcases C1.out with ⟨hp, ha, he⟩ | ⟨hp, ha, he⟩
    · subst ha he
      have hp2 : ¬ 0 ≤ p := by omega
      go_wp2_with (go_at_call 11; refine (HA.out _).mono ?_; rintro e w5 ⟨rfl, b5⟩; obtain ⟨h5, g5, x5, B5⟩ := text_mid3 h4.out g4.out x4.out B4.out b5; clear b5)
      go_meet
      exact ⟨rfl, h5, g5, x5, B5⟩
    · subst he
      subst ha
      have hp2 : ¬ a1 < 0 := by omega
      go_wp2_with (go_at_call 11; refine (HA.out _).mono ?_; rintro e w5 ⟨rfl, b5⟩; obtain ⟨h5, g5, x5, B5⟩ := text_mid3 h4.out g4.out x4.out B4.out b5; clear b5)
      go_meet
      exact ⟨rfl, h5, g5, x5, B5⟩
  case rest =>
    clear h3 g3 B3 h4 g4 x4 B4
    obtain ⟨rfl, h5, g5, x5, B5⟩ := hcut
    clear HU HRU HPa HRP HA C1
    have HTx := hide fun W => text_any h hl W
    have hZ : (⟨(hexL h.reverse).toArray⟩ : ByteArray).size ≤ 281474976710656 := by
      show (hexL h.reverse).toArray.size ≤ _
      rw [List.size_toArray, hexL_len, List.length_reverse, hl]
      decide
    have HB := hide fun W => parse_any ⟨(hexL h.reverse).toArray⟩ hZ W
    rw [(parseH_text h hl).1, (parseH_text h hl).2, if_pos (by decide), if_pos (by decide)] at HB
    have H19 := hide fun W => hex_big s W hs
    have H20 := hide fun W => rHex_below s hs W
    have hRz : (⟨h.toArray⟩ : ByteArray).size = 32 := by show h.toArray.size = 32; rw [List.size_toArray, hl]
    have H21 := hide fun W => turned_any (⟨h.toArray⟩ : ByteArray) (by rw [hRz]; decide) W
    have hRr : (⟨(⟨h.toArray⟩ : ByteArray).data.toList.reverse.toArray⟩ : ByteArray) = ⟨h.reverse.toArray⟩ := by simp
    rw [hRr] at H21
    have hRq : (⟨h.reverse.toArray⟩ : ByteArray).size = 32 := by show h.reverse.toArray.size = 32; rw [List.size_toArray, List.length_reverse, hl]
    have H2b := hide fun W => rHex_below (⟨h.reverse.toArray⟩ : ByteArray) (by rw [hRq]; decide) W
    have hRd : (⟨h.reverse.toArray⟩ : ByteArray).data.toList = h.reverse := by simp
    rw [hRd] at H2b
    have H22 := hide fun W => compare_any h g hl gl W
    have H23 := hide fun W => rcompare_below h g hl gl W
    obtain ⟨Ha, hHa⟩ : ∃ x : ByteArray, Hid (x = ⟨h.toArray⟩) := ⟨_, rfl⟩
    obtain ⟨Ga, hGa⟩ : ∃ x : ByteArray, Hid (x = ⟨g.toArray⟩) := ⟨_, rfl⟩
    rw [← hHa.out] at H21 H23
    rw [← hGa.out] at H23
    clear hRz hRr hRq hRd hZ
    generalize (⟨h.reverse.toArray⟩ : ByteArray) = R at H21 H2b
    generalize (⟨(hexL h.reverse).toArray⟩ : ByteArray) = T at HTx HB H2b
    generalize (⟨(hexL s.data.toList).toArray⟩ : ByteArray) = S at H19 H20
    generalize cmpK (hb h) (hb g) 32 = C at H22 H23
    go_upto_region 7 with fail
    go_cut [114] from 78 to 114 (fun c wx => c = .bool false ∧ wx = wc)
    case first =>
      rcases C2.out with ⟨hq, hy, ha, he⟩ | ⟨hq, hx, ha, he⟩
      · subst ha he hy
        have hq2 : ¬ 0 ≤ q := by omega
        have hcv := conv33 wc _ X hX 33 x5.out
        go_wp2
        go_meet
        exact ⟨rfl, rfl⟩
      · subst he hx
        subst ha
        have hq2 : ¬ a2 < 0 := by omega
        have hld := lhz x5.out
        have hez := fun W => eqz' W
        go_wp2
        go_meet
        exact ⟨rfl, rfl⟩
    case rest =>
      clear x5 C2
      obtain ⟨rfl, rfl⟩ := hcut
      go_upto_region 11 with (first | refine wpList_load33 rfl _ rfl _ rfl h hl 33 h5.out ?_ | (go_at_call 18; refine (HTx.out _).mono ?_; rintro e w6 ⟨rfl, b6⟩) | (go_at_call 16; refine (HB.out _).mono ?_; rintro e w7 ⟨rfl, b7⟩; have J := hide (Jt.start h5.out g5.out B5.out b6 b7); clear b6 b7) | refine wpList_alloc33 rfl rfl ?_ | refine wpList_store33_new rfl _ _ rfl _ rfl _ hl rfl rfl zeros_len ?_)
      clear h5 g5 B5
      obtain ⟨I, hne, F, i0, h0, hJ, hcl⟩ : ∃ (I : Type) (_ : Nonempty I) (F : I → World) (i0 : I), (w7.alloc (.cells (hc h) 33)).drew = F i0 ∧ Hid (∀ i, Jt w (F i) w7.heap.size h g) ∧ Hid (∀ i W', Below (F i).heap.size (F i) W' → ∃ j, W' = F j) :=
        ⟨{W : World // Jt w W w7.heap.size h g}, ⟨⟨_, J.out⟩⟩, Subtype.val, ⟨_, J.out⟩, rfl, fun i => i.2, fun i W' b => ⟨⟨W', i.2.next b⟩, rfl⟩⟩
      have c1 := fun i => ((hJ.out i).facts hl gl hHa.out hGa.out).1
      have c2 := fun i => ((hJ.out i).facts hl gl hHa.out hGa.out).2.1
      have l1 := fun i => ((hJ.out i).facts hl gl hHa.out hGa.out).2.2.1
      have l2 := fun i => ((hJ.out i).facts hl gl hHa.out hGa.out).2.2.2.1
      have l3 := fun i => ((hJ.out i).facts hl gl hHa.out hGa.out).2.2.2.2
      have he := fun W => eqh h hl W
      clear J
      refine wp_region_class_lit (by kernel_rfl) (by kernel_rfl) i0 h0 ?_
      repeat (go_big_quiet_step (first | (go_at_call 19; exact class_of hcl.out (H19.out _)) | (go_at_call_of 20 (Value.string s); exact class_of hcl.out (H20.out _)) | (go_at_call 21; exact class_of_same (H21.out _)) | (go_at_call_of 20 (Value.string R); exact class_of hcl.out (H2b.out _)) | (go_at_call 22; exact class_of hcl.out (H22.out _)) | (go_at_call 23; exact class_of hcl.out (H23.out _))))
      refine wpQuiet_nil ?_
      rintro _ ⟨iq, rfl⟩
      go_wp2
      go_ret
      exact ⟨rfl, (hJ.out iq).below⟩
end
end Go.Proofs.Ytnmffnefkokkeaa
