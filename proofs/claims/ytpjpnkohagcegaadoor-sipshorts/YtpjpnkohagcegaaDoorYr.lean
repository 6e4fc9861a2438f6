/- The law SipShorts: its walk. -/
import Derived.Test.YtpjpnkohagcegaaDoorYq
namespace Go.Proofs.YtpjpnkohagcegaaDoor
open Go.RowKit
open Go.Deep
/-- The cells of SipShorts' input. -/
def sSA (h : ByteArray) (n : Nat) (l : List UInt8) (s : ByteArray) (p : Int) : Array Value := ([Value.string h, Value.int .u64 (n : Int)] ++ cellsL l ++ [Value.string s, Value.int .i64 p]).toArray
theorem scells {W : World} {g : Nat} {t : TypeId} {h : ByteArray} {n : Nat} {l : List UInt8} {s : ByteArray} {p : Int} (hl : l.length = 32) (e : W.heap[g]? = some (.cells (sSA h n l s p) t (0, 0))) :
    W.cell? ⟨g, 0, none⟩ = some (.string h) ∧ W.cell? ⟨g, 1, none⟩ = some (.int .u64 (n : Int)) ∧ W.rangeAt g 2 (cellsL l) ∧ W.cell? ⟨g, 34, none⟩ = some (.string s) ∧ W.cell? ⟨g, 35, none⟩ = some (.int .i64 p) := by
  have hc : (cellsL l).length = 32 := by rw [cellsL_len, hl]
  refine ⟨?_, ?_, fun j v hv => ?_, ?_, ?_⟩
  · rw [cell_of_row _ _ 0 _ _ _ e]; rfl
  · rw [cell_of_row _ _ 1 _ _ _ e]; rfl
  · have hj : j < 32 := by
      rcases Nat.lt_or_ge j 32 with h' | h'
      · exact h'
      · rw [List.getElem?_eq_none (by omega)] at hv; cases hv
    rw [cell_of_row _ _ (2 + j) _ _ _ e, sSA, List.getElem?_toArray, List.append_assoc, List.getElem?_append_right (by simp), List.getElem?_append_left (by simp; omega)]
    simpa using hv
  · rw [cell_of_row _ _ 34 _ _ _ e, sSA, List.getElem?_toArray, List.getElem?_append_right (by simp; omega)]
    simp [hc]
  · rw [cell_of_row _ _ 35 _ _ _ e, sSA, List.getElem?_toArray, List.getElem?_append_right (by simp; omega)]
    simp [hc]
theorem keepS {W W' : World} {g : Nat} {h : ByteArray} {n : Nat} {l : List UInt8} {s : ByteArray} {p : Int} (hb : ∀ k, k < W.heap.size → W'.heap[k]? = W.heap[k]?) (hg : g < W.heap.size) (c : W.cell? ⟨g, 0, none⟩ = some (.string h) ∧ W.cell? ⟨g, 1, none⟩ = some (.int .u64 (n : Int)) ∧ W.rangeAt g 2 (cellsL l) ∧ W.cell? ⟨g, 34, none⟩ = some (.string s) ∧ W.cell? ⟨g, 35, none⟩ = some (.int .i64 p)) : W'.cell? ⟨g, 0, none⟩ = some (.string h) ∧ W'.cell? ⟨g, 1, none⟩ = some (.int .u64 (n : Int)) ∧ W'.rangeAt g 2 (cellsL l) ∧ W'.cell? ⟨g, 34, none⟩ = some (.string s) ∧ W'.cell? ⟨g, 35, none⟩ = some (.int .i64 p) := by
  have hc : ∀ i, W'.cell? ⟨g, i, none⟩ = W.cell? ⟨g, i, none⟩ := fun i => World.cell?_of_block (a := ⟨g, i, none⟩) (hb g hg)
  obtain ⟨c0, c1, cr, c34, c35⟩ := c
  exact ⟨(hc 0).trans c0, (hc 1).trans c1, fun j v hv => (hc _).trans (cr j v hv), (hc 34).trans c34, (hc 35).trans c35⟩
/-- What is known of the world in SipShorts: the id at block a. -/
structure Jh (w W : World) (a : Nat) (l : List UInt8) : Prop where
  ia : W.heap[a]? = some (.cells (hc l) 24 (0, 0))
  below : Below w.heap.size w W
theorem Jh.next {w W W' : World} {a : Nat} {l : List UInt8} (j : Jh w W a l) (h : Below W.heap.size W W') : Jh w W' a l :=
  ⟨(h.block _ (lt_heap j.ia)).trans j.ia, j.below.trans (h.mono j.below.size)⟩
theorem infoH (l : List UInt8) (hl : l.length = 32) : (Tryd.prog.info? 24).map (·.size) = some (cellsL l).length := by rw [A25.info, cellsL_len, hl]
theorem hash_set (W0 : World) (l : List UInt8) (hl : l.length = 32) : ((W0.alloc (.cells (hc zeros) 24)).drew.setCells W0.heap.size 0 (cellsL l)).heap[W0.heap.size]? = some (.cells (hc l) 24 (0, 0)) := by
  have h0 : (W0.alloc (.cells (hc zeros) 24)).drew.rowIs W0.heap.size 24 32 (fun j => .int .u8 (by8 zeros j : Int)) := row_of (by rw [hc_size, zeros_len]) (heap_alloc_last _ _) (fun i hi => hc_at _ i (by rw [zeros_len]; exact hi))
  refine of_row (n := 32) (f := fun j => .int .u8 (by8 l j : Int)) (by rw [hc_size, hl]) ?_ (fun i hi => hc_at l i (by omega))
  refine (rowIs_setCells (cellsL l) 0 _ _ h0).congr (fun j hj => ?_)
  have e := hc_at l j (by omega)
  rw [hc, List.getElem?_toArray] at e
  rw [cellsL_len, hl, if_pos (by omega), Nat.sub_zero, e]
  rfl
theorem leN_short (S : Nat) (h : S < 281474976710656) : leN (((txt (lowL S 6)).data.toList.drop 0).take 6) = S := by
  rw [List.drop_zero, show (txt (lowL S 6)).data.toList = lowL S 6 from rfl, List.take_of_length_le (by rw [lowL_len]; omega), leN_lowL]
  omega
/-- What is known of the world in SipShorts: the id at block a, the keys at block b. -/
structure Jq (w W : World) (a b : Nat) (l : List UInt8) (k0 k1 : UInt64) : Prop where
  ia : W.heap[a]? = some (.cells (hc l) 24 (0, 0))
  kb : W.heap[b]? = some (.cells (qc [k0, k1]) 28 (0, 0))
  below : Below w.heap.size w W
theorem Jq.next {w W W' : World} {a b : Nat} {l : List UInt8} {k0 k1 : UInt64} (j : Jq w W a b l k0 k1) (h : Below W.heap.size W W') : Jq w W' a b l k0 k1 :=
  ⟨(h.block _ (lt_heap j.ia)).trans j.ia, (h.block _ (lt_heap j.kb)).trans j.kb, j.below.trans (h.mono j.below.size)⟩
theorem Jq.c0 {w W : World} {a b : Nat} {l : List UInt8} {k0 k1 : UInt64} (j : Jq w W a b l k0 k1) : W.cell? ⟨b, 0, none⟩ = some (.int .u64 (k0.toNat : Int)) := cell_of_row _ _ 0 _ _ _ j.kb
theorem Jq.c1 {w W : World} {a b : Nat} {l : List UInt8} {k0 k1 : UInt64} (j : Jq w W a b l k0 k1) : W.cell? ⟨b, 1, none⟩ = some (.int .u64 (k1.toNat : Int)) := cell_of_row _ _ 1 _ _ _ j.kb
section
set_option maxRecDepth 100000
set_option maxHeartbeats 4000000
theorem sipShorts_walk (h : ByteArray) (n : Nat) (l : List UInt8) (s : ByteArray) (p : Int) (hl : l.length = 32) (hn : U64 n) (hs : s.size ≤ 9223372036854775807) (w : World) (hK : Kg w) : Calls Tryd.prog 3 #[.agg (sSA h n l s p)] w fun e w' => e = .returned (.bool true) ∧ Below w.heap.size w w' := by
  have HD := hide (heap_alloc_last w (.cells (sSA h n l s p) 26))
  have BB := hide ((Below.refl w.heap.size w).alloc (Nat.le_refl _) (.cells (sSA h n l s p) 26))
  have HK := hide hK
  clear hK
  go_enter Tryd.func3, Tryd.ntmps3
  go_upto_region 1 with (refine wpList_boxA rfl _ rfl (sSA h n l s p) rfl ?_)
  obtain ⟨c0, c1, cr, c34, c35⟩ := scells hl HD.out
  generalize w.alloc (.cells (sSA h n l s p) 26) = W0 at *
  have n0 := World.new_ne W0 ⟨w.heap.size, 0, none⟩ c0
  have hal := A25.alloc
  have hu := Tryd.underlying24
  have hi := infoH l hl
  have hgl : w.heap.size < W0.heap.size := lt_heap HD.out
  have h1c : ∀ v ∈ cellsL l, v.oneCell' = true := fun v hv => by
    simp only [cellsL, List.mem_map] at hv
    obtain ⟨b, _, rfl⟩ := hv
    rfl
  have th : (W0.alloc (.cells #[.int .u8 0, .int .u8 0, .int .u8 0, .int .u8 0, .int .u8 0, .int .u8 0, .int .u8 0, .int .u8 0, .int .u8 0, .int .u8 0, .int .u8 0, .int .u8 0, .int .u8 0, .int .u8 0, .int .u8 0, .int .u8 0, .int .u8 0, .int .u8 0, .int .u8 0, .int .u8 0, .int .u8 0, .int .u8 0, .int .u8 0, .int .u8 0, .int .u8 0, .int .u8 0, .int .u8 0, .int .u8 0, .int .u8 0, .int .u8 0, .int .u8 0, .int .u8 0] 24)).drew.there W0.heap.size 0 (cellsL l).length := fun j hj => by
    rw [cellsL_len, hl] at hj
    have hz : (W0.alloc (.cells (hc zeros) 24)).heap[W0.heap.size]? = some (.cells (hc zeros) 24 (0, 0)) := heap_alloc_last _ _
    rw [Nat.zero_add]
    refine ⟨?_, frozen_of_row _ _ j _ _ hz⟩
    have e := cell_of_row (W0.alloc (.cells (hc zeros) 24)) W0.heap.size j _ _ _ hz
    rw [hc_at zeros j (by rw [zeros_len]; exact hj)] at e
    exact (congrArg Option.isSome e).trans rfl
  have cc := hide (And.intro c0 (And.intro c1 (And.intro cr (And.intro c34 c35))))
  go_cut [3, 4, 5, 6, 7] from 21 to 30 (fun s3 s4 s5 s6 s7 wx => ∃ a, s3 = .string h ∧ s4 = .int .u64 (n : Int) ∧ s5 = .pointer (some ⟨a, 0, none⟩) ∧ s6 = .string s ∧ s7 = .int .i64 p ∧ Hid (Jh w wx a l))
  case first =>
    go_region_held3 (fun w' => w'.cell? ⟨w.heap.size, 0, none⟩ = some (.string h) ∧ w'.cell? ⟨w.heap.size, 1, none⟩ = some (.int .u64 (n : Int)) ∧ w'.rangeAt w.heap.size 2 (cellsL l) ∧ w'.cell? ⟨w.heap.size, 34, none⟩ = some (.string s) ∧ w'.cell? ⟨w.heap.size, 35, none⟩ = some (.int .i64 p)) ((refine keepS (W := W0) (fun k hk => ?_) hgl cc.out; first | rfl | exact Below.heap_alloc W0 _ k hk | exact ((Rfr.setCells W0.heap.size (cellsL l) 0 _).block k (by simp; omega) (by omega)).trans (Below.heap_alloc W0 _ k hk))) (fail)
    go_wp2_with fail
    go_meet
    exact ⟨_, rfl, rfl, rfl, rfl, rfl, ⟨hash_set W0 l hl, (BB.out.trans ((((Below.refl W0.heap.size W0).alloc (Nat.le_refl _) (.cells (hc zeros) 24)).drew.trans ((Rfr.setCells W0.heap.size (cellsL l) 0 _).to_below (Nat.le_refl _) (by simp))).mono BB.out.size))⟩⟩
  obtain ⟨a, rfl, rfl, rfl, rfl, rfl, J⟩ := hcut
  clear c0 c1 cr c34 c35 n0 hal hu hi hgl h1c th cc HD BB
  generalize wc = W1 at *
  have HA := hide fun W => awake_any6 W
  by_cases hh : h.size = 80
  · have hne : ((h.size : Int) == 80) = true := by simp; omega
    have HKy := hide fun W hW => keys_good h n hh hn W hW
    have HRk := hide fun W => rkeys_any h n hh hn W
    generalize keyA (keyD h.data.toList n) = k0 at *
    generalize keyB (keyD h.data.toList n) = k1 at *
    go_upto_region 3 with (first | (go_at_call 4; refine (HKy.out _ (HK.out.next J.out.below)).mono ?_; rintro e w2 ⟨rfl, b2⟩; have J2 := hide (J.out.next b2); clear b2) | refine wpList_allocA AK rfl rfl ?_ | refine wpList_store_newA AK rfl _ _ rfl _ rfl (qc [k0, k1]) rfl (qc_one _) rfl rfl ?_)
    have J3 : Hid (Jq w (w2.alloc (.cells (qc [k0, k1]) 28)) a w2.heap.size l k0 k1) := ⟨(Below.heap_alloc w2 _ _ (lt_heap J2.out.ia)).trans J2.out.ia, heap_alloc_last _ _, J2.out.below.alloc J2.out.below.size _⟩
    generalize w2.alloc (.cells (qc [k0, k1]) 28) = W3 at *
    generalize w2.heap.size = b at *
    clear J J2 HKy
    go_upto_region 6 with (go_at_call 5; refine (HA.out _).mono ?_; rintro e w4 ⟨rfl, b4⟩; have J4 := hide (J3.out.next b4); clear b4)
    go_upto_region 7 with (go_at_call 6; refine (HRk.out _).mono ?_; rintro e w5 ⟨rfl, b5⟩; have J5 := hide (J4.out.next b5); clear b5)
    have c0 := J5.out.c0
    have c1 := J5.out.c1
    clear J3 J4
    go_upto_region 9 with fail
    clear c0 c1
    have HSh := hide fun W => short_any k0 k1 l hl W
    have HRs := hide fun W => rshort_any k0 k1 l hl W
    have hS := shN_lt k0 k1 l
    generalize shN k0 k1 l = S at *
    have HB1 := hide fun W => sbytes_good S (by omega) W
    have hsz6 : (txt (lowL S 6)).size = 6 := by show (lowL S 6).toArray.size = 6; rw [List.size_toArray, lowL_len]
    have HT1 := hide fun W => take_good (txt (lowL S 6)) 0 (by omega) (by omega) (by omega) W
    rw [leN_short S hS, show ((0 : Nat) : Int) = 0 from rfl] at HT1
    have HLo := hide fun W => low_any S 6 6 rfl (by unfold U64; omega) W (by omega)
    rw [show (⟨(lowL S 6).toArray⟩ : ByteArray) = txt (lowL S 6) from rfl] at HLo
    generalize txt (lowL S 6) = T at *
    have HKB := hide J5.out.kb
    have HIA := hide J5.out.ia
    go_upto_region 12 with (first | refine wpList_loadA AK rfl _ rfl _ rfl (qc [k0, k1]) rfl 28 HKB.out ?_ | refine wpList_loadA A25 rfl _ rfl _ rfl (hc l) (by rw [hc_size, hl]) 24 HIA.out ?_ | (go_at_call 7; refine (HSh.out _).mono ?_; rintro e wx ⟨rfl, bx⟩; have JX1 := hide (J5.out.next bx); clear bx) | (go_at_call 8; refine (HB1.out _).mono ?_; rintro e wy ⟨rfl, by_⟩; have JX2 := hide (JX1.out.next by_); clear by_) | (go_at_call 9; refine (HT1.out _).mono ?_; rintro e wz ⟨rfl, bz⟩; have JM := hide (JX2.out.next bz); clear bz))
    clear JX1 JX2 J5 HKB HIA HSh HB1 HT1
    by_cases hnn : n ≤ 281474976710655
    · have HB2 := hide fun W => sbytes_good n hnn W
      have hnl : (n : Int) < 281474976710656 := by omega
      clear hnn hS hsz6
      generalize txt (lowL n 6) = TN at *
      go_upto_region 15 with (first | (go_at_call 8; refine (HB2.out _).mono ?_; rintro e wa ⟨rfl, ba⟩; have JA := hide (JM.out.next ba); have d0 := JA.out.c0; have d1 := JA.out.c1; have dI := hide JA.out.ia; clear ba) | refine wpList_loadA A25 rfl _ rfl _ rfl (hc l) (by rw [hc_size, hl]) 24 dI.out ?_ | (go_at_call 10; refine (HRs.out _).mono ?_; rintro e wb ⟨rfl, bb⟩; have JB := hide (JA.out.next bb); clear bb) | (go_at_call 11; refine (HLo.out _).mono ?_; rintro e wl ⟨rfl, bl⟩; have JN := hide (JB.out.next bl); clear bl))
      have HS2 := hide hs
      clear hs hnl d0 d1
      by_cases hp0 : p < 0
      · have HT2 := hide fun W => take_arg s p (.inl hp0) W
        go_wp2_with (go_at_call 9; refine (HT2.out _).mono ?_; rintro e wt ⟨rfl, bt⟩; have JT := hide (JN.out.next bt); clear bt)
        go_ret
        exact ⟨rfl, JT.out.below⟩
      · by_cases hp1 : (s.size : Int) < p
        · have HT2 := hide fun W => take_arg s p (.inr hp1) W
          go_wp2_with (go_at_call 9; refine (HT2.out _).mono ?_; rintro e wt ⟨rfl, bt⟩; have JT := hide (JN.out.next bt); clear bt)
          go_ret
          exact ⟨rfl, JT.out.below⟩
        · obtain ⟨q, rfl⟩ := Int.eq_ofNat_of_zero_le (show 0 ≤ p by omega)
          by_cases h6 : s.size - q < 6
          · have HT2 := hide fun W => take_cut s q (by omega) HS2.out h6 W
            have H6 := hide h6
            clear h6
            go_upto_region 18 with (go_at_call 9; refine (HT2.out _).mono ?_; rintro e wt ⟨rfl, bt⟩; have JT := hide (JN.out.next bt); clear bt)
            have hw1 : IntKind.i64.wrap ((s.size : Int) - (q : Int)) = (s.size : Int) - (q : Int) := wrapI _ (by omega) (by have := HS2.out; omega)
            have h6' : (s.size : Int) - (q : Int) < 6 := by have := H6.out; omega
            go_wp2
            go_ret
            exact ⟨rfl, JT.out.below⟩
          · have HT2 := hide fun W => take_good s q (by omega) HS2.out (by omega) W
            have H6 := hide h6
            have HG := hide fun W => get_any (s.extract q (q + 6)) (by rw [ByteArray.size_extract]; omega) W
            rw [ext_take, show q + 6 - q = 6 by omega] at HG
            generalize leN ((s.data.toList.drop q).take 6) = V at *
            clear h6
            go_upto_region 18 with (go_at_call 9; refine (HT2.out _).mono ?_; rintro e wt ⟨rfl, bt⟩; have JT := hide (JN.out.next bt); clear bt)
            have hw1 : IntKind.i64.wrap ((s.size : Int) - (q : Int)) = (s.size : Int) - (q : Int) := wrapI _ (by omega) (by have := HS2.out; omega)
            have h6' : ¬ (s.size : Int) - (q : Int) < 6 := by have := H6.out; omega
            have hw2 : IntKind.i64.wrap ((q : Int) + 6) = (q : Int) + 6 := wrapI _ (by omega) (by have := HS2.out; omega)
            have a1 : (0 : Int) ≤ q := by omega
            have a2 : (q : Int) ≤ (q : Int) + 6 := by omega
            have a3 : (q : Int) + 6 ≤ s.size := by omega
            have a4 : ((q : Int) + 6).toNat = q + 6 := by omega
            go_wp2_with (go_at_call 12; refine (HG.out _).mono ?_; rintro e wg ⟨rfl, hwg⟩; subst wg)
            go_ret
            exact ⟨rfl, JT.out.below⟩
    · have HB2 := hide fun W => sbytes_bad n (by omega) W
      have hnl : decide ((n : Int) < 281474976710656) = false := decide_eq_false (by omega)
      clear hnn hS hsz6
      go_upto_region 15 with (first | (go_at_call 8; refine (HB2.out _).mono ?_; rintro e wa ⟨rfl, ba⟩; have JA := hide (JM.out.next ba); have d0 := JA.out.c0; have d1 := JA.out.c1; have dI := hide JA.out.ia; clear ba) | refine wpList_loadA A25 rfl _ rfl _ rfl (hc l) (by rw [hc_size, hl]) 24 dI.out ?_ | (go_at_call 10; refine (HRs.out _).mono ?_; rintro e wb ⟨rfl, bb⟩; have JB := hide (JA.out.next bb); clear bb) | (go_at_call 11; refine (HLo.out _).mono ?_; rintro e wl ⟨rfl, bl⟩; have JN := hide (JB.out.next bl); clear bl))
      have HS2 := hide hs
      clear hs hnl d0 d1
      by_cases hp0 : p < 0
      · have HT2 := hide fun W => take_arg s p (.inl hp0) W
        go_wp2_with (go_at_call 9; refine (HT2.out _).mono ?_; rintro e wt ⟨rfl, bt⟩; have JT := hide (JN.out.next bt); clear bt)
        go_ret
        exact ⟨rfl, JT.out.below⟩
      · by_cases hp1 : (s.size : Int) < p
        · have HT2 := hide fun W => take_arg s p (.inr hp1) W
          go_wp2_with (go_at_call 9; refine (HT2.out _).mono ?_; rintro e wt ⟨rfl, bt⟩; have JT := hide (JN.out.next bt); clear bt)
          go_ret
          exact ⟨rfl, JT.out.below⟩
        · obtain ⟨q, rfl⟩ := Int.eq_ofNat_of_zero_le (show 0 ≤ p by omega)
          by_cases h6 : s.size - q < 6
          · have HT2 := hide fun W => take_cut s q (by omega) HS2.out h6 W
            have H6 := hide h6
            clear h6
            go_upto_region 18 with (go_at_call 9; refine (HT2.out _).mono ?_; rintro e wt ⟨rfl, bt⟩; have JT := hide (JN.out.next bt); clear bt)
            have hw1 : IntKind.i64.wrap ((s.size : Int) - (q : Int)) = (s.size : Int) - (q : Int) := wrapI _ (by omega) (by have := HS2.out; omega)
            have h6' : (s.size : Int) - (q : Int) < 6 := by have := H6.out; omega
            go_wp2
            go_ret
            exact ⟨rfl, JT.out.below⟩
          · have HT2 := hide fun W => take_good s q (by omega) HS2.out (by omega) W
            have H6 := hide h6
            have HG := hide fun W => get_any (s.extract q (q + 6)) (by rw [ByteArray.size_extract]; omega) W
            rw [ext_take, show q + 6 - q = 6 by omega] at HG
            generalize leN ((s.data.toList.drop q).take 6) = V at *
            clear h6
            go_upto_region 18 with (go_at_call 9; refine (HT2.out _).mono ?_; rintro e wt ⟨rfl, bt⟩; have JT := hide (JN.out.next bt); clear bt)
            have hw1 : IntKind.i64.wrap ((s.size : Int) - (q : Int)) = (s.size : Int) - (q : Int) := wrapI _ (by omega) (by have := HS2.out; omega)
            have h6' : ¬ (s.size : Int) - (q : Int) < 6 := by have := H6.out; omega
            have hw2 : IntKind.i64.wrap ((q : Int) + 6) = (q : Int) + 6 := wrapI _ (by omega) (by have := HS2.out; omega)
            have a1 : (0 : Int) ≤ q := by omega
            have a2 : (q : Int) ≤ (q : Int) + 6 := by omega
            have a3 : (q : Int) + 6 ≤ s.size := by omega
            have a4 : ((q : Int) + 6).toNat = q + 6 := by omega
            go_wp2_with (go_at_call 12; refine (HG.out _).mono ?_; rintro e wg ⟨rfl, hwg⟩; subst wg)
            go_ret
            exact ⟨rfl, JT.out.below⟩
  · have hne : ((h.size : Int) == 80) = false := by simp; omega
    have HKy := hide fun W => keys_bad h n hh W
    obtain ⟨k0, hk0⟩ : ∃ k : UInt64, k = 0 := ⟨_, rfl⟩
    go_upto_region 3 with (first | (go_at_call 4; refine (HKy.out _).mono ?_; rintro e w2 ⟨rfl, b2⟩; have J2 := hide (J.out.next b2); clear b2) | refine wpList_allocA AK rfl rfl ?_ | refine wpList_store_newA AK rfl _ _ rfl _ rfl (qc [0, 0]) rfl (qc_one _) rfl rfl ?_)
    have J3 : Hid (Jq w (w2.alloc (.cells (qc [0, 0]) 28)) a w2.heap.size l 0 0) := ⟨(Below.heap_alloc w2 _ _ (lt_heap J2.out.ia)).trans J2.out.ia, heap_alloc_last _ _, J2.out.below.alloc J2.out.below.size _⟩
    generalize w2.alloc (.cells (qc [0, 0]) 28) = W3 at *
    generalize w2.heap.size = b at *
    clear J J2 HKy
    go_upto_region 9 with (first | (go_at_call 5; refine (HA.out _).mono ?_; rintro e w4 ⟨rfl, b4⟩; have J4 := hide (J3.out.next b4); have c0 : w4.cell? ⟨b, 0, none⟩ = some (.int .u64 0) := J4.out.c0; have c1 : w4.cell? ⟨b, 1, none⟩ = some (.int .u64 0) := J4.out.c1; clear b4))
    clear c0 c1 J3
    rw [← hk0] at J4
    clear hk0
    have HSh := hide fun W => short_any k0 k0 l hl W
    have HRs := hide fun W => rshort_any k0 k0 l hl W
    have hS := shN_lt k0 k0 l
    generalize shN k0 k0 l = S at *
    have HB1 := hide fun W => sbytes_good S (by omega) W
    have hsz6 : (txt (lowL S 6)).size = 6 := by show (lowL S 6).toArray.size = 6; rw [List.size_toArray, lowL_len]
    have HT1 := hide fun W => take_good (txt (lowL S 6)) 0 (by omega) (by omega) (by omega) W
    rw [leN_short S hS, show ((0 : Nat) : Int) = 0 from rfl] at HT1
    have HLo := hide fun W => low_any S 6 6 rfl (by unfold U64; omega) W (by omega)
    rw [show (⟨(lowL S 6).toArray⟩ : ByteArray) = txt (lowL S 6) from rfl] at HLo
    generalize txt (lowL S 6) = T at *
    have HKB := hide J4.out.kb
    have HIA := hide J4.out.ia
    go_upto_region 12 with (first | refine wpList_loadA AK rfl _ rfl _ rfl (qc [k0, k0]) rfl 28 HKB.out ?_ | refine wpList_loadA A25 rfl _ rfl _ rfl (hc l) (by rw [hc_size, hl]) 24 HIA.out ?_ | (go_at_call 7; refine (HSh.out _).mono ?_; rintro e wx ⟨rfl, bx⟩; have JX1 := hide (J4.out.next bx); clear bx) | (go_at_call 8; refine (HB1.out _).mono ?_; rintro e wy ⟨rfl, by_⟩; have JX2 := hide (JX1.out.next by_); clear by_) | (go_at_call 9; refine (HT1.out _).mono ?_; rintro e wz ⟨rfl, bz⟩; have JM := hide (JX2.out.next bz); clear bz))
    clear JX1 JX2 J4 HKB HIA HSh HB1 HT1
    by_cases hnn : n ≤ 281474976710655
    · have HB2 := hide fun W => sbytes_good n hnn W
      have hnl : (n : Int) < 281474976710656 := by omega
      clear hnn hS hsz6
      generalize txt (lowL n 6) = TN at *
      go_upto_region 15 with (first | (go_at_call 8; refine (HB2.out _).mono ?_; rintro e wa ⟨rfl, ba⟩; have JA := hide (JM.out.next ba); have d0 := JA.out.c0; have d1 := JA.out.c1; have dI := hide JA.out.ia; clear ba) | refine wpList_loadA A25 rfl _ rfl _ rfl (hc l) (by rw [hc_size, hl]) 24 dI.out ?_ | (go_at_call 10; refine (HRs.out _).mono ?_; rintro e wb ⟨rfl, bb⟩; have JB := hide (JA.out.next bb); clear bb) | (go_at_call 11; refine (HLo.out _).mono ?_; rintro e wl ⟨rfl, bl⟩; have JN := hide (JB.out.next bl); clear bl))
      have HS2 := hide hs
      clear hs hnl d0 d1
      by_cases hp0 : p < 0
      · have HT2 := hide fun W => take_arg s p (.inl hp0) W
        go_wp2_with (go_at_call 9; refine (HT2.out _).mono ?_; rintro e wt ⟨rfl, bt⟩; have JT := hide (JN.out.next bt); clear bt)
        go_ret
        exact ⟨rfl, JT.out.below⟩
      · by_cases hp1 : (s.size : Int) < p
        · have HT2 := hide fun W => take_arg s p (.inr hp1) W
          go_wp2_with (go_at_call 9; refine (HT2.out _).mono ?_; rintro e wt ⟨rfl, bt⟩; have JT := hide (JN.out.next bt); clear bt)
          go_ret
          exact ⟨rfl, JT.out.below⟩
        · obtain ⟨q, rfl⟩ := Int.eq_ofNat_of_zero_le (show 0 ≤ p by omega)
          by_cases h6 : s.size - q < 6
          · have HT2 := hide fun W => take_cut s q (by omega) HS2.out h6 W
            have H6 := hide h6
            clear h6
            go_upto_region 18 with (go_at_call 9; refine (HT2.out _).mono ?_; rintro e wt ⟨rfl, bt⟩; have JT := hide (JN.out.next bt); clear bt)
            have hw1 : IntKind.i64.wrap ((s.size : Int) - (q : Int)) = (s.size : Int) - (q : Int) := wrapI _ (by omega) (by have := HS2.out; omega)
            have h6' : (s.size : Int) - (q : Int) < 6 := by have := H6.out; omega
            go_wp2
            go_ret
            exact ⟨rfl, JT.out.below⟩
          · have HT2 := hide fun W => take_good s q (by omega) HS2.out (by omega) W
            have H6 := hide h6
            have HG := hide fun W => get_any (s.extract q (q + 6)) (by rw [ByteArray.size_extract]; omega) W
            rw [ext_take, show q + 6 - q = 6 by omega] at HG
            generalize leN ((s.data.toList.drop q).take 6) = V at *
            clear h6
            go_upto_region 18 with (go_at_call 9; refine (HT2.out _).mono ?_; rintro e wt ⟨rfl, bt⟩; have JT := hide (JN.out.next bt); clear bt)
            have hw1 : IntKind.i64.wrap ((s.size : Int) - (q : Int)) = (s.size : Int) - (q : Int) := wrapI _ (by omega) (by have := HS2.out; omega)
            have h6' : ¬ (s.size : Int) - (q : Int) < 6 := by have := H6.out; omega
            have hw2 : IntKind.i64.wrap ((q : Int) + 6) = (q : Int) + 6 := wrapI _ (by omega) (by have := HS2.out; omega)
            have a1 : (0 : Int) ≤ q := by omega
            have a2 : (q : Int) ≤ (q : Int) + 6 := by omega
            have a3 : (q : Int) + 6 ≤ s.size := by omega
            have a4 : ((q : Int) + 6).toNat = q + 6 := by omega
            go_wp2_with (go_at_call 12; refine (HG.out _).mono ?_; rintro e wg ⟨rfl, hwg⟩; subst wg)
            go_ret
            exact ⟨rfl, JT.out.below⟩
    · have HB2 := hide fun W => sbytes_bad n (by omega) W
      have hnl : decide ((n : Int) < 281474976710656) = false := decide_eq_false (by omega)
      clear hnn hS hsz6
      go_upto_region 15 with (first | (go_at_call 8; refine (HB2.out _).mono ?_; rintro e wa ⟨rfl, ba⟩; have JA := hide (JM.out.next ba); have d0 := JA.out.c0; have d1 := JA.out.c1; have dI := hide JA.out.ia; clear ba) | refine wpList_loadA A25 rfl _ rfl _ rfl (hc l) (by rw [hc_size, hl]) 24 dI.out ?_ | (go_at_call 10; refine (HRs.out _).mono ?_; rintro e wb ⟨rfl, bb⟩; have JB := hide (JA.out.next bb); clear bb) | (go_at_call 11; refine (HLo.out _).mono ?_; rintro e wl ⟨rfl, bl⟩; have JN := hide (JB.out.next bl); clear bl))
      have HS2 := hide hs
      clear hs hnl d0 d1
      by_cases hp0 : p < 0
      · have HT2 := hide fun W => take_arg s p (.inl hp0) W
        go_wp2_with (go_at_call 9; refine (HT2.out _).mono ?_; rintro e wt ⟨rfl, bt⟩; have JT := hide (JN.out.next bt); clear bt)
        go_ret
        exact ⟨rfl, JT.out.below⟩
      · by_cases hp1 : (s.size : Int) < p
        · have HT2 := hide fun W => take_arg s p (.inr hp1) W
          go_wp2_with (go_at_call 9; refine (HT2.out _).mono ?_; rintro e wt ⟨rfl, bt⟩; have JT := hide (JN.out.next bt); clear bt)
          go_ret
          exact ⟨rfl, JT.out.below⟩
        · obtain ⟨q, rfl⟩ := Int.eq_ofNat_of_zero_le (show 0 ≤ p by omega)
          by_cases h6 : s.size - q < 6
          · have HT2 := hide fun W => take_cut s q (by omega) HS2.out h6 W
            have H6 := hide h6
            clear h6
            go_upto_region 18 with (go_at_call 9; refine (HT2.out _).mono ?_; rintro e wt ⟨rfl, bt⟩; have JT := hide (JN.out.next bt); clear bt)
            have hw1 : IntKind.i64.wrap ((s.size : Int) - (q : Int)) = (s.size : Int) - (q : Int) := wrapI _ (by omega) (by have := HS2.out; omega)
            have h6' : (s.size : Int) - (q : Int) < 6 := by have := H6.out; omega
            go_wp2
            go_ret
            exact ⟨rfl, JT.out.below⟩
          · have HT2 := hide fun W => take_good s q (by omega) HS2.out (by omega) W
            have H6 := hide h6
            have HG := hide fun W => get_any (s.extract q (q + 6)) (by rw [ByteArray.size_extract]; omega) W
            rw [ext_take, show q + 6 - q = 6 by omega] at HG
            generalize leN ((s.data.toList.drop q).take 6) = V at *
            clear h6
            go_upto_region 18 with (go_at_call 9; refine (HT2.out _).mono ?_; rintro e wt ⟨rfl, bt⟩; have JT := hide (JN.out.next bt); clear bt)
            have hw1 : IntKind.i64.wrap ((s.size : Int) - (q : Int)) = (s.size : Int) - (q : Int) := wrapI _ (by omega) (by have := HS2.out; omega)
            have h6' : ¬ (s.size : Int) - (q : Int) < 6 := by have := H6.out; omega
            have hw2 : IntKind.i64.wrap ((q : Int) + 6) = (q : Int) + 6 := wrapI _ (by omega) (by have := HS2.out; omega)
            have a1 : (0 : Int) ≤ q := by omega
            have a2 : (q : Int) ≤ (q : Int) + 6 := by omega
            have a3 : (q : Int) + 6 ≤ s.size := by omega
            have a4 : ((q : Int) + 6).toNat = q + 6 := by omega
            go_wp2_with (go_at_call 12; refine (HG.out _).mono ?_; rintro e wg ⟨rfl, hwg⟩; subst wg)
            go_ret
            exact ⟨rfl, JT.out.below⟩
end
end Go.Proofs.YtpjpnkohagcegaaDoor
