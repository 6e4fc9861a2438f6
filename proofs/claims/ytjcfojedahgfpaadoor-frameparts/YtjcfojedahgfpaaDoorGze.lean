/- FrameParts' walk. -/
import Derived.Test.YtjcfojedahgfpaaDoorGzd
import Derived.BigQuiet
namespace Go.Proofs.YtjcfojedahgfpaaDoor
open Go.RowKit
open Go.Deep
theorem txt_cat (a b : List UInt8) : txt a ++ txt b = txt (a ++ b) := by
  apply ByteArray.ext
  rw [← Array.toList_inj]
  simp [txt]
theorem encAll_len (m : Nat) : ∀ l : List Fm2, (∀ f ∈ l, okF f) → (encAll m l).length ≤ l.length * 16408
  | [], _ => by simp [encAll]
  | f :: l, h => by
    have h1 := okF_len m (h f (List.mem_cons_self ..))
    have h2 := (h f (List.mem_cons_self ..)).2
    have h3 := encAll_len m l (fun g hg => h g (List.mem_cons_of_mem _ hg))
    rw [encAll, List.length_append, List.length_cons, h1]
    omega
/-- Numbers that come in. -/
def LI (w : World) (v : Value) (C : List Int) : Prop :=
  ∃ ao cap, v = .slice ao C.length cap ∧ C.length ≤ cap ∧ ∀ i (hi : i < C.length), ∃ g off, ao = some ⟨g, off, none⟩ ∧ g < w.heap.size ∧ w.cell? ⟨g, off + i, none⟩ = some (.int .i64 C[i])
def szOf : Value → Nat
  | .string t => t.size
  | _ => 0
theorem oks_len (l : List Fm2) : (oks l).length ≤ l.length := List.length_filter_le _ _
theorem OF.new (w : World) : OF (w.alloc (.cells #[] 24)) (.slice (some ⟨w.heap.size, 0, none⟩) 0 0) [] := World.ownsRow_made w #[] 0 (Nat.zero_le _) (Nat.zero_le _) rfl
theorem bsF0 (w : World) : (Instr.buildSlice 40 0 #[]).run Tryd.prog w = .ok (.slice (some ⟨w.heap.size, 0, none⟩) 0 0) (w.alloc (.cells #[] 24)) := by
  kernel_rfl
theorem bsF1 (c p : ByteArray) (w : World) : (Instr.buildSlice 40 1 #[(0, .agg #[.string c, .string p])]).run Tryd.prog w = .ok (.slice (some ⟨w.heap.size, 0, none⟩) 1 1) (w.alloc (.cells #[.string c, .string p] 24)) := by
  kernel_rfl
section
set_option maxRecDepth 10000
set_option maxHeartbeats 4000000
theorem frameParts_walk (m : Nat) (hm : m < 4294967296) (vl vc : Value) (L : List Fm2) (w : World) (hL : LF w vl L) (hLl : L.length ≤ 4398046510976) (hLm : ∀ f ∈ L, f.1.length ≤ maxLen ∧ f.2.length ≤ maxLen) (C : List Int) (hC : LI w vc C) (hCl : C.length ≤ 17592186044416) (hK : Kg w) : Calls Tryd.prog 4 #[.int .u32 (m : Int), vl, vc] w fun e w' => e = .returned (.bool true) ∧ Below w.heap.size w w' := by
  have KW : Hid (∀ W, Below w.heap.size w W → Kg W) := fun W h => hK.next h
  obtain ⟨ao, cap, rfl, hcap, hat⟩ := hL
  obtain ⟨aoc, capc, rfl, hcapc, hatc⟩ := hC
  have HATC := hide hatc
  have HAT := hide hat
  have HLM := hide hLm
  have HLL := hide hLl
  have HCL := hide hCl
  clear hK hat hLm hcap hatc hcapc hLl hCl
  have h5 := bsF0
  have O0 := hide (OF.new w)
  have B0 : Hid (Below w.heap.size w (w.alloc (.cells #[] 24))) := (Below.refl _ _).alloc (Nat.le_refl _) _
  go_enter Tryd.func4, Tryd.ntmps4
  go_wp2
  clear h5
  generalize w.alloc (.cells #[] 24) = W0 at *
  go_loopw [7, 8, 26] (fun s7 s8 i wr => ∃ k : Nat, k ≤ L.length ∧ i = .int .i64 (k : Int) ∧ s7 = .string (txt (encAll m (oks (L.take k)))) ∧ Hid (OF wr s8 (oks (L.take k)) ∧ Below w.heap.size w wr ∧ ∀ g, s8.ownBlock = some g → w.heap.size ≤ g)) (fun _ _ i _ => (L.length - intOf i).toNat)
  case atStart => exact ⟨0, Nat.zero_le _, rfl, rfl, O0.out, B0.out, fun g hg => by cases hg; exact Nat.le_refl _⟩
  case round =>
    clear O0 B0
    obtain ⟨k, hk, rfl, rfl, hJ⟩ := hrel
    obtain ⟨ow, bw, fw⟩ := hJ.out
    obtain ⟨a8, c8, rfl⟩ := ow.form
    have OW := hide ow
    have BW := hide bw
    have FW := hide fw
    clear ow bw fw hJ
    by_cases hlt : k < L.length
    · have h1 : (k : Int) < (L.length : Int) := by omega
      have hkb : (k : Int) ≤ 4398046510976 := by have := HLL.out; omega
      obtain ⟨g, off, rfl, hg, hr⟩ := HAT.out k hlt
      have hmx := HLM.out L[k] (List.getElem_mem hlt)
      have R0 : Hid (wr.rangeAt g (off + k * 2) (fr2 L[k].1 L[k].2).toList) := fun j v hv => by
        rw [← hr j v hv]
        exact BW.out.cell (p := ⟨g, off + k * 2 + j, none⟩) hg
      have hT : oks (L.take (k + 1)) = if encE L[k].1 L[k].2 = 0 then oks (L.take k) ++ [L[k]] else oks (L.take k) := by
        rw [← oks_app, ← List.take_append_getElem hlt]
      have HT := hide hT
      have HOL : Hid ((encAll m (oks (L.take k))).length ≤ 80000000000000000 ∧ (oks (L.take k)).length ≤ 4398046510976) := by
        have h2 := encAll_len m (oks (L.take k)) (oks_ok _)
        have h3 := oks_len (L.take k)
        have h4 : (L.take k).length ≤ L.length := by rw [List.length_take]; omega
        have h5 := HLL.out
        exact ⟨by omega, by omega⟩
      have KK := hide (And.intro (show k + 1 ≤ L.length by omega) (show ((L.length : Int) - ((k : Int) + 1)).toNat < ((L.length : Int) - (k : Int)).toNat by omega))
      clear hT hr hg HAT HLM
      generalize L[k] = f at *
      obtain ⟨fc, fp⟩ := f
      simp only at hmx R0 HT
      generalize hO : oks (L.take k) = O at *
      generalize hO1 : oks (L.take (k + 1)) = O1 at *
      have HE : Hid (∀ W, Kg W → Calls Tryd.prog 6 #[.int .u32 (m : Int), .agg #[.string (txt fc), .string (txt fp)]] W fun e w' => e = .returned (.tuple #[.string (txt (encT m fc fp)), .int .i64 (encE fc fp)]) ∧ Below W.heap.size W w') := fun W hW => encode_any m hm (txt fc) (txt fp) (by rw [txt_size]; exact hmx.1) (by rw [txt_size]; exact hmx.2) W hW
      clear hmx
      have HTL : Hid ((encT m fc fp).length ≤ 20000) := by
        show _ ≤ _
        unfold encT
        split
        · rename_i h0
          have := okF_of (f := (fc, fp)) h0
          rw [okF_len m this]
          have := this.2
          simp only at this ⊢
          omega
        · simp
      have HDC := hide fun W hW => decode_any m hm (txt (encT m fc fp)) (by rw [txt_size]; have := HTL.out; omega) 0 W hW
      rw [txt_list] at HDC
      go_upto_region 6 with (first | refine wpList_load_mid rfl 24 _ rfl g (off + k * 2) rfl (fr2 fc fp).toList _ R0.out Tryd.underlying24 rfl (by kernel_rfl) ?_ | refine wpList_allocA AF rfl rfl ?_ | refine wpList_store_newA AF rfl _ _ rfl _ rfl (fr2 fc fp) rfl (fr2_one _ _) rfl rfl ?_)
      simp only [Act.put, List.setIfInBounds_toArray, List.set_cons_zero, List.set_cons_succ]
      have b6 : Below wr.heap.size wr (wr.alloc (.cells (fr2 fc fp) 24)) := (Below.refl _ _).alloc (Nat.le_refl _) _
      have R6 := hide (heap_alloc_last wr (.cells (fr2 fc fp) 24))
      have B6 := hide (below_next BW.out b6)
      have O6 := hide (OW.out.below b6)
      clear b6 R0 OW BW
      generalize wr.alloc (.cells (fr2 fc fp) 24) = W6 at *
      generalize wr.heap.size = g10 at *
      go_upto_region 7 with (first | refine wpList_loadA AF rfl _ rfl g10 rfl #[.string (txt fc), .string (txt fp)] rfl 24 R6.out ?_ | (go_at_call 6; refine (HE.out _ (KW.out _ B6.out)).mono ?_; rintro e w7 ⟨rfl, b7⟩; have R7 := hide ((b7.block _ (lt_heap R6.out)).trans R6.out); have B7 := hide (below_next B6.out b7); have O7 := hide (O6.out.below b7); clear b7))
      clear R6 B6 O6 HE
      generalize hD : decM m (encT m fc fp) 0 = D at *
      obtain ⟨de, dc, dp, dl⟩ := D
      unfold Dc.valp at HDC
      simp only at HDC
      go_upto_region 8 with (first | (go_at_call 13; refine (HDC.out _ (KW.out _ B7.out)).mono ?_; rintro e w8 ⟨rfl, b8⟩; have R8 := hide ((b8.block _ (lt_heap R7.out)).trans R7.out); have B8 := hide (below_next B7.out b8); have O8 := hide (O7.out.below b8); clear b8) | refine wpList_allocA AF rfl rfl ?_ | refine wpList_store_newA AF rfl _ _ rfl _ rfl (fr2 dc dp) rfl (fr2_one _ _) rfl rfl ?_)
      have b9 : Below w8.heap.size w8 (w8.alloc (.cells (fr2 dc dp) 24)) := (Below.refl _ _).alloc (Nat.le_refl _) _
      have R9 := hide ((b9.block _ (lt_heap R8.out)).trans R8.out)
      have Z9 := hide (heap_alloc_last w8 (.cells (fr2 dc dp) 24))
      have B9 := hide (below_next B8.out b9)
      have O9 := hide (O8.out.below b9)
      clear b9 R8 R7 B8 B7 O8 O7 HDC
      generalize w8.alloc (.cells (fr2 dc dp) 24) = W9 at *
      generalize w8.heap.size = g13 at *
      by_cases he : encE fc fp = 0
      · rw [if_pos he] at HT
        have hok := okF_of (f := (fc, fp)) he
        have hdec := encB_dec m fc fp [] hok.1 hok.2
        have hTe : encT m fc fp = encB m fc fp := by unfold encT; rw [if_pos he]
        rw [List.append_nil, ← hTe, hD] at hdec
        injection hdec with q1 q2 q3 q4
        subst q1 q2 q3
        have hTl : (encT m dc dp).length = 24 + dp.length := by rw [hTe]; exact okF_len m hok
        have q5 : dl = ((txt (encT m dc dp)).size : Int) := by rw [txt_size, hTl, q4]; omega
        have HEN : Hid (encAll m (O ++ [(dc, dp)]) = encAll m O ++ encT m dc dp) := by
          show _ = _
          rw [encAll_app, hTe, encAll, encAll, List.append_nil]
        have hz1 : (txt (encAll m O)).size + (txt (encT m dc dp)).size ≤ 9223372036854775807 := by
          rw [txt_size, txt_size]
          have := HOL.out.1
          have := HTL.out
          omega
        rw [he]
        subst q5
        clear hTe hTl q4 hok he hD
        generalize encT m dc dp = T at *
        have x0 : W9.cell? ⟨g10, 0, none⟩ = some (.string (txt dc)) := by rw [cell_of_row W9 g10 0 _ _ _ R9.out]; rfl
        have x1 : W9.cell? ⟨g10, 1, none⟩ = some (.string (txt dp)) := by rw [cell_of_row W9 g10 1 _ _ _ R9.out]; rfl
        have z0 : W9.cell? ⟨g13, 0, none⟩ = some (.string (txt dc)) := by rw [cell_of_row W9 g13 0 _ _ _ Z9.out]; rfl
        have z1 : W9.cell? ⟨g13, 1, none⟩ = some (.string (txt dp)) := by rw [cell_of_row W9 g13 1 _ _ _ Z9.out]; rfl
        go_upto_region 12 with (fail)
        rw [txt_cat, ← HEN.out]
        clear HEN hz1 x0 x1 z0 z1 Z9
        have h5 := bsF1 (txt dc) (txt dp)
        have bA : Below W9.heap.size W9 (W9.alloc (.cells #[.string (txt dc), .string (txt dp)] 24)) := (Below.refl _ _).alloc (Nat.le_refl _) _
        have OA := hide (O9.out.below bA)
        have BA := hide (below_next B9.out bA)
        have RA := hide (heap_alloc_last W9 (.cells #[.string (txt dc), .string (txt dp)] 24))
        clear bA O9 B9
        have HC : Hid ((W9.alloc (.cells #[.string (txt dc), .string (txt dp)] 24)).cell? ((⟨W9.heap.size, 0, none⟩ : Addr).add 0) = some (.string (txt dc)) ∧ (W9.alloc (.cells #[.string (txt dc), .string (txt dp)] 24)).cell? ((⟨W9.heap.size, 0, none⟩ : Addr).add 1) = some (.string (txt dp))) := by
          show _ ∧ _
          rw [Addr.add_mid, Addr.add_mid, Nat.zero_add, Nat.zero_add, cell_of_row _ _ 0 _ _ _ RA.out, cell_of_row _ _ 1 _ _ _ RA.out]
          exact ⟨rfl, rfl⟩
        have HOL2 : Hid (O.length + 1 ≤ 4398046511104) := by have := HOL.out.2; show _ ≤ _; omega
        go_upto_region 13 with (first | refine wpList_loadA AF rfl _ rfl g10 rfl #[.string (txt dc), .string (txt dp)] rfl 24 R9.out ?_ | (refine wpList_appF rfl _ _ rfl (.slice a8 O.length c8) O rfl OA.out ⟨W9.heap.size, 0, none⟩ (dc, dp) rfl HC.out.1 HC.out.2 HOL2.out ?_; intro v' w' o' on'))
        have FA : Hid (∀ g, v'.ownBlock = some g → w.heap.size ≤ g) := fun g hg => by
          rcases on'.lies with h | ⟨g', h, h'⟩
          · exact FW.out g (h ▸ hg)
          · rw [hg] at h
            cases h
            exact Nat.le_trans BA.out.size h'
        have BE := hide (BA.out.trans (on'.below BA.out.size FW.out))
        have OE := hide o'
        clear o' on' OA BA RA HC HOL2 h5 R9
        go_wp2
        go_roundw
        case rel => exact ⟨k + 1, KK.out.1, by go_num, by rw [hO1, HT.out], by rw [hO1, HT.out]; exact ⟨OE.out, BE.out, FA.out⟩⟩
        case measure => exact KK.out.2
      · rw [if_neg he] at HT
        clear hD R9 Z9 HTL HOL
        go_wp2
        go_roundw
        case rel => exact ⟨k + 1, KK.out.1, by go_num, by rw [hO1, HT.out], by rw [hO1, HT.out]; exact ⟨O9.out, B9.out, FW.out⟩⟩
        case measure => exact KK.out.2
    · have h1 : ¬ (k : Int) < (L.length : Int) := by omega
      obtain rfl : k = L.length := by omega
      rw [List.take_length] at *
      clear HAT HLM
      obtain ⟨wb, hwb⟩ : ∃ x, x = wr := ⟨_, rfl⟩
      subst hwb
      have HOL : Hid ((encAll m (oks L)).length ≤ 80000000000000000 ∧ (oks L).length ≤ 4398046510976) := by
        have h2 := encAll_len m (oks L) (oks_ok _)
        have h3 := oks_len L
        have h5 := HLL.out
        exact ⟨by omega, by omega⟩
      have HOK := hide (oks_ok L)
      have HKR : Hid (∀ W, Below wb.heap.size wb W → Kg W) := fun W h => KW.out W (below_next BW.out h)
      have HOF : Hid (∀ W, Below wb.heap.size wb W → OF W (.slice a8 (oks L).length c8) (oks L)) := fun W h => OW.out.below h
      have HCC : Hid (∀ W, Below wb.heap.size wb W → ∀ i (hi : i < C.length), ∃ g off, aoc = some ⟨g, off, none⟩ ∧ W.cell? ⟨g, off + i, none⟩ = some (.int .i64 C[i])) := fun W h i hi => by
        obtain ⟨g, off, h1, h2, h3⟩ := HATC.out i hi
        exact ⟨g, off, h1, by rw [← h3]; exact (below_next BW.out h).cell (p := ⟨g, off + i, none⟩) h2⟩
      have J1 := hide (Sm.new wb m hm)
      clear KW OW HATC FW
      generalize oks L = O at *
      go_upto_region 15 with (go_at_call 15; refine (fnew_any m _).mono ?_; rintro e w1 ⟨rfl, rfl⟩)
      generalize wb.alloc (.cells (sc4 ⟨m, [], 0, 0⟩ (.slice none 0 0)) 73) = W1 at *
      generalize wb.heap.size = gb at J1 ⊢
      go_upto_region 17 with (go_at_call 8; refine (awake8_any _ (HKR.out _ J1.out.bel)).mono ?_; rintro e w2 ⟨rfl, b2⟩; have J2 := hide (J1.out.next b2); clear b2)
      clear J1
      go_wp2
      go_loopw [7, 17, 18] (fun s7 s17 s18 W => ∃ (S held : List UInt8) (n i : Nat) (v : Value), s7 = .string (txt S) ∧ s17 = .int .i64 (n : Int) ∧ s18 = .int .i64 (i : Int) ∧ Hid (Sm [] wb W gb v ⟨m, held, 0, (n : Int)⟩) ∧ Hid (n ≤ O.length ∧ held ++ S = encAll m (O.drop n) ∧ held.length < 16408 ∧ (S = [] → held = [] ∧ n = O.length) ∧ S.length ≤ 80000000000000000 ∧ i ≤ C.length + (80000000000000000 - S.length))) (fun s7 _ s18 _ => ((C.length : Int) - intOf s18).toNat + szOf s7)
      case atStart =>
        refine ⟨encAll m O, [], 0, 0, _, rfl, rfl, rfl, J2, Nat.zero_le _, rfl, by decide, fun h => ⟨rfl, ?_⟩, HOL.out.1, Nat.zero_le _⟩
        cases O with
        | nil => rfl
        | cons f r =>
          rw [encAll] at h
          have := congrArg List.length h
          rw [List.length_append, okF_len m (HOK.out f (List.mem_cons_self ..))] at this
          simp at this
      case round =>
        clear J2
        obtain ⟨S, held, n, i, v, rfl, rfl, rfl, J, HF⟩ := hrel
        by_cases hS : S = []
        · subst hS
          obtain ⟨rfl, rfl⟩ := HF.out.2.2.2.1 rfl
          clear HF
          have HH := hide (held_any J.out)
          have HTK := hide (taken_any J.out)
          have HBR := hide (broken_any J.out)
          have he0 : txt [] = ⟨#[]⟩ := rfl
          rw [he0]
          go_wp2_with (first | (go_at_call 16; refine HH.out.mono ?_; rintro e w3 ⟨rfl, rfl⟩) | (go_at_call 19; refine HTK.out.mono ?_; rintro e w3 ⟨rfl, rfl⟩) | (go_at_call 20; refine HBR.out.mono ?_; rintro e w3 ⟨rfl, rfl⟩))
          go_ret
          exact ⟨rfl, below_next BW.out J.out.bel⟩
        · have hne : (txt S).toList.isEmpty = false := by rw [tle]; simpa using hS
          have hpos : 0 < S.length := List.length_pos_iff.2 hS
          obtain ⟨W2, hW2⟩ : ∃ x, x = wr := ⟨_, rfl⟩
          subst hW2
          have HH := hide (held_any J.out)
          have hzS : (txt S).size = S.length := txt_size S
          have hhl : held.length < 16408 := HF.out.2.2.1
          obtain ⟨q, HQ, hq⟩ : ∃ q : Nat, Hid (q ≤ S.length ∧ q ≤ 32816 - held.length ∧ (C.length ≤ i → 0 < q)) ∧ ((∀ hi : i < C.length, min (max C[i] 0) (min (S.length : Int) (32816 - (held.length : Int))) = (q : Int)) ∧ (¬ i < C.length → min (S.length : Int) (32816 - (held.length : Int)) = (q : Int))) := by
            by_cases hi : i < C.length
            · exact ⟨(min (max C[i] 0) (min (S.length : Int) (32816 - (held.length : Int)))).toNat, ⟨by omega, by omega, by omega⟩, fun _ => by omega, fun h => absurd hi h⟩
            · exact ⟨(min (S.length : Int) (32816 - (held.length : Int))).toNat, ⟨by omega, by omega, by omega⟩, fun h => absurd h hi, fun _ => by omega⟩
          have hq1 : (q : Int) ≤ (S.length : Int) := by have := HQ.out.1; omega
          have HFE : Hid (Calls Tryd.prog 17 #[.pointer (some ⟨gb, 0, none⟩), .string ((txt S).extract 0 q)] W2 fun e w' => e = .returned (.int .i64 (q : Int)) ∧ ∃ v', Sm [] wb w' gb v' ⟨m, held ++ S.take q, 0, (n : Int)⟩) := by
            have h := feed_any J.out ((txt S).extract 0 q) (by rw [exs _ _ _ (by have := HQ.out.1; omega)]; have := HQ.out.2.1; unfold maxLen; omega)
            rw [exl (txt S) 0 q q (by omega), List.drop_zero, txt_list] at h
            unfold Sq.feed at h
            simp only [ne_eq, not_true_eq_false, if_false] at h
            have h1 : (S.take q).length = q := by rw [List.length_take]; have := HQ.out.1; omega
            rw [List.take_of_length_le (l := S.take q) (i := 32816 - held.length) (by rw [h1]; exact HQ.out.2.1), h1, Nat.min_eq_left HQ.out.2.1] at h
            exact h
          have HXD : Hid ((txt S).extract q S.length = txt (S.drop q)) := by
            show _ = _
            rw [← hzS]
            apply ByteArray.ext
            rw [← Array.toList_inj]
            exact ext_list (txt S) q
          have e95 : IntKind.i64.wrap (32816 - (held.length : Int)) = 32816 - (held.length : Int) := wrapI _ (by omega) (by omega)
          by_cases hic : i < C.length
          case' pos =>
            have hic1 : (i : Int) < (C.length : Int) := by omega
            obtain ⟨gc, oc, rfl, hcell⟩ := HCC.out W2 J.out.bel i hic
            have hq2 := hq.1 hic
            clear hq
            go_upto_region 25 with (go_at_call 16; refine HH.out.mono ?_; rintro e w3 ⟨rfl, rfl⟩)
            try rw [hq2]
            clear hq2 hic1
          case' neg =>
            have hic1 : ¬ (i : Int) < (C.length : Int) := by omega
            have hq2 := hq.2 hic
            clear hq
            go_upto_region 25 with (go_at_call 16; refine HH.out.mono ?_; rintro e w3 ⟨rfl, rfl⟩)
            try rw [hq2]
            clear hq2 hic1
          all_goals
            clear HH e95
            go_wp2_with (go_at_call 17; refine HFE.out.mono ?_; rintro e w4 ⟨rfl, v4, j4⟩; have J4 := hide j4; clear j4)
            rw [HXD.out]
            have HF4 : Hid (n ≤ O.length ∧ held ++ S.take q ++ S.drop q = encAll m (O.drop n)) := ⟨HF.out.1, by rw [List.append_assoc, List.take_append_drop]; exact HF.out.2.1⟩
            have HNEXT : Hid ((S.drop q).length ≤ 80000000000000000 ∧ i + 1 ≤ C.length + (80000000000000000 - (S.drop q).length) ∧ ((C.length : Int) - ((i : Int) + 1)).toNat + (txt (S.drop q)).size < ((C.length : Int) - (i : Int)).toNat + (txt S).size) := by
              have h1 := HQ.out
              have h2 := HF.out.2.2.2.2
              rw [txt_size, txt_size, List.length_drop]
              exact ⟨by omega, by omega, by omega⟩
            have hib : (i : Int) ≤ 90000000000000000 := by
              have h3 := HCL.out
              have h2 := HF.out.2.2.2.2
              omega
            clear J HFE HXD HQ HF hne hpos hzS hhl hq1
            generalize S.drop q = S2 at *
            generalize held ++ S.take q = held2 at *
            go_loopw [17] (fun s17 W => ∃ (h2 : List UInt8) (n2 : Nat) (v2 : Value), s17 = .int .i64 (n2 : Int) ∧ Hid (Sm [] wb W gb v2 ⟨m, h2, 0, (n2 : Int)⟩) ∧ Hid (n2 ≤ O.length ∧ h2 ++ S2 = encAll m (O.drop n2))) (fun s17 _ => ((O.length : Int) - intOf s17).toNat)
            case atStart => exact ⟨_, n, _, rfl, J4, HF4⟩
            case round =>
              clear J4 HF4
              obtain ⟨h2, n2, v2, rfl, J5, H5⟩ := hrel
              obtain ⟨W5, hW5⟩ : ∃ x, x = wr := ⟨_, rfl⟩
              subst hW5
              have HNX := hide (next_any J5.out (HKR.out _ J5.out.bel))
              unfold Nx.vals at HNX
              have hnb : (n2 : Int) ≤ 4398046510976 := by have := H5.out.1; have := HOL.out.2; omega
              rcases Sq.next_rest m h2 S2 (O.drop n2) n2 H5.out.2 (fun f hf => HOK.out f (List.mem_of_mem_drop hf)) with ⟨⟨fc, fp⟩, r, h3, e1, e2, e3, e4⟩ | ⟨e1, e2, e3⟩
              · have ew : IntKind.i64.wrap ((n2 : Int) + 1) = ((n2 + 1 : Nat) : Int) := by rw [wrapI _ (by omega) (by omega)]; rfl
                rw [ew] at e4
                rw [e4] at HNX
                simp only at HNX
                have hn2 : n2 < O.length := by
                  rcases Nat.lt_or_ge n2 O.length with h | h
                  · exact h
                  · rw [List.drop_of_length_le h] at e1
                    cases e1
                rw [List.drop_eq_getElem_cons hn2] at e1
                injection e1 with e5 e6
                have H6 : Hid (n2 + 1 ≤ O.length ∧ h3 ++ S2 = encAll m (O.drop (n2 + 1))) := ⟨hn2, by rw [e6]; exact e2⟩
                have HM : Hid (((O.length : Int) - ((n2 : Int) + 1)).toNat < ((O.length : Int) - (n2 : Int)).toNat) := by show _ < _; omega
                clear e2 e3 e4 e6 ew H5
                go_upto_region 29 with (first | (go_at_call 18; refine HNX.out.mono ?_; rintro e w6 ⟨rfl, v6, j6⟩; have J6 := hide j6; clear j6) | refine wpList_allocA AF rfl rfl ?_ | refine wpList_store_newA AF rfl _ _ rfl _ rfl (fr2 fc fp) rfl (fr2_one _ _) rfl rfl ?_)
                have J7 := hide (J6.out.next ((Below.refl _ _).alloc (Nat.le_refl _) (.cells (fr2 fc fp) 24)))
                have R7 := hide (heap_alloc_last w6 (.cells (fr2 fc fp) 24))
                clear J6 J5 HNX
                generalize w6.alloc (.cells (fr2 fc fp) 24) = W7 at *
                generalize w6.heap.size = g20 at *
                have OF7 := HOF.out W7 J7.out.bel
                obtain ⟨g8, c', hv⟩ := OF7.base (by omega)
                cases hv
                have y := OF7.cell n2 hn2
                rw [e5] at y
                have y0 := y.1
                have y1 := y.2
                have z0 : W7.cell? ⟨g20, 0, none⟩ = some (.string (txt fc)) := by rw [cell_of_row W7 g20 0 _ _ _ R7.out]; rfl
                have z1 : W7.cell? ⟨g20, 1, none⟩ = some (.string (txt fp)) := by rw [cell_of_row W7 g20 1 _ _ _ R7.out]; rfl
                have hd : decide ((O.length : Int) ≤ (n2 : Int)) = false := by simp; omega
                have hn3 : (n2 : Int) < (O.length : Int) := by omega
                clear y OF7 R7
                go_upto_region 32 with (fail)
                go_quiet (fail)
                go_wp2
                go_roundw
                case rel => exact ⟨h3, n2 + 1, v6, by go_num, J7.out.drewN nq, H6⟩
                case measure => exact HM.out
              · rw [e1] at HNX
                simp only at HNX
                go_wp2_with (first | (go_at_call 18; refine HNX.out.mono ?_; rintro e w6 ⟨rfl, v6, j6⟩; have J6 := hide j6; clear j6) | refine wpList_allocA AF rfl rfl ?_ | refine wpList_store_newA AF rfl _ _ rfl _ rfl (fr2 [] []) rfl (fr2_one _ _) rfl rfl ?_)
                go_roundw
                case rel =>
                  refine ⟨S2, h2, n2, i + 1, v6, rfl, rfl, by go_num, J6.out.next ((Below.refl _ _).alloc (Nat.le_refl _) _), H5.out.1, H5.out.2, e2, fun hs => ⟨(e3 hs).1, ?_⟩, HNEXT.out.1, HNEXT.out.2.1⟩
                  have h4 := List.drop_eq_nil_iff.1 (e3 hs).2
                  have h5 := H5.out.1
                  omega
                case measure => exact HNEXT.out.2.2
end
end Go.Proofs.YtjcfojedahgfpaaDoor
