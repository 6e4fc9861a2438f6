/- Frames: the contracts of magicBytes, beginsLike and Encode. -/
import Derived.Test.YtjcfojedahgfpaaDoorFf
namespace Go.Proofs.YtjcfojedahgfpaaDoor
open Go.RowKit
open Go.Deep
/-- A writer at block b that holds l, all made behind B. -/
structure Wb (B w : World) (b : Nat) (l : List UInt8) : Prop where
  st : Wst w (.pointer (some ⟨b, 0, none⟩)) l
  bel : Below B.heap.size B w
  far : B.heap.size ≤ b
  row : ∀ k, rowOf w (.pointer (some ⟨b, 0, none⟩)) = some k → B.heap.size ≤ k
theorem Wb.new (w : World) : Wb w (w.alloc (.cells #[.slice none 0 0] 78)) w.heap.size [] := by
  refine ⟨Wst.new w, (Below.refl _ _).alloc (Nat.le_refl _) _, Nat.le_refl _, fun k hk => ?_⟩
  have hc : (w.alloc (.cells #[.slice none 0 0] 78)).cell? ⟨w.heap.size, 0, none⟩ = some (.slice none 0 0) := by
    rw [cell_of_row _ _ 0 _ _ _ (heap_alloc_new w _)]; rfl
  simp [rowOf, hc, Value.ownBlock] at hk
theorem Wb.step {B w w' : World} {b : Nat} {l l' : List UInt8} (h : Wb B w b l) (s : Wst w' (.pointer (some ⟨b, 0, none⟩)) l') (f : Wfr w w' (.pointer (some ⟨b, 0, none⟩))) : Wb B w' b l' := by
  have hs := h.bel.size
  refine ⟨s, h.bel.trans ⟨f.os, f.tape, f.output, f.size, fun k hk => f.block k (by omega) ?_ ?_⟩, h.far, fun k hk => ?_⟩
  · have := h.far
    simp [blkOf]
    omega
  · intro e
    have := h.row k e
    omega
  · rcases f.lies with e | ⟨g, e, hg⟩
    · exact h.row k (by rw [← e]; exact hk)
    · rw [e] at hk
      cases hk
      omega
theorem Wb.next {B w w' : World} {b : Nat} {l : List UInt8} (h : Wb B w b l) (k : Below w.heap.size w w') : Wb B w' b l := h.step (h.st.below k) (Wfr.of_below h.st k)
section
set_option maxRecDepth 10000
set_option maxHeartbeats 1000000
theorem magicBytes_any (m : Nat) (hm : m < 4294967296) (w : World) : Calls Tryd.prog 50 #[.int .u32 m] w fun e w' => e = .returned (.string (txt (lowL m 4))) ∧ Below w.heap.size w w' := by
  go_enter Tryd.func50, Tryd.ntmps50
  go_wp2_with (first | (go_at_call 23; refine (newWriter_any _).mono ?_; rintro e w1 ⟨rfl, rfl⟩; have J := hide (Wb.new w)) | (go_at_call 24; refine (wU32 _ _ m hm _ (by simp) J.out.st).mono ?_; rintro e w2 ⟨rfl, s2, f2⟩; have J2 := hide (J.out.step s2 f2); rw [List.nil_append] at J2; clear s2 f2) | (go_at_call 27; refine (wText _ _ _ J2.out.st).mono ?_; rintro e w3 ⟨rfl, rfl⟩))
  go_ret
  exact ⟨rfl, J2.out.bel⟩
theorem txt_inj {a b : List UInt8} (h : txt a = txt b) : a = b := by
  have := congrArg (fun t : ByteArray => t.data.toList) h
  simpa [txt] using this
theorem beginsLike_any (m : Nat) (s : ByteArray) (hs : s.size ≤ maxLen) (w : World) : Calls Tryd.prog 49 #[.string s, .string (txt (lowL m 4))] w fun e w' => e = .returned (.bool (likeM m s.data.toList)) ∧ ∃ n, w' = w.drewN n := by
  unfold maxLen at hs
  have hM : (txt (lowL m 4)).size = 4 := by rw [txt_size, lowL_len]
  have HE : Hid (∀ k, k = min s.size 4 → ((s.extract 0 k).toList == ((txt (lowL m 4)).extract 0 k).toList) = likeM m s.data.toList) := by
    intro k hk
    rw [ByteArray.toList_eq, ByteArray.toList_eq, exl s 0 k k (by omega), exl _ 0 k k (by omega), List.drop_zero, List.drop_zero, txt_list]
    unfold likeM
    by_cases h : s.size ≤ 4
    · rw [show k = s.size by omega, List.take_of_length_le (by simp), List.take_of_length_le (l := s.data.toList) (i := 4) (by simpa using h)]
      simp
    · rw [show k = 4 by omega, List.take_of_length_le (l := lowL m 4) (i := s.data.toList.length) (by rw [lowL_len]; simp; omega), List.take_of_length_le (l := lowL m 4) (i := 4) (by rw [lowL_len]; omega)]
  generalize txt (lowL m 4) = M at *
  by_cases h : (s.size : Int) ≤ 4
  · have hmin : min (s.size : Int) 4 = s.size := by omega
    have H2 : (s.toList == (M.extract 0 s.size).toList) = likeM m s.data.toList := by rw [← HE.out s.size (by omega)]; simp
    go_enter Tryd.func49, Tryd.ntmps49
    go_upto_region 2 with fail
    go_quiet (fail)
    go_wp2
    go_ret
    exact ⟨rfl, _, rfl⟩
  · have hmin : min (s.size : Int) 4 = 4 := by omega
    have H2 := HE.out 4 (by omega)
    go_enter Tryd.func49, Tryd.ntmps49
    go_upto_region 2 with fail
    go_quiet (fail)
    go_wp2
    go_ret
    exact ⟨rfl, _, rfl⟩
theorem rep0 (n : Nat) : Lib.repeatL [0] n = List.replicate n (0 : UInt8) := by
  induction n with
  | zero => rfl
  | succ n ih => simp [Lib.repeatL, ih, List.replicate_succ]
/-- The cells of a frame that came in. -/
theorem frame_cells (w : World) (c p : ByteArray) : ∀ W, Below (w.alloc (.cells #[.string c, .string p] 24)).heap.size (w.alloc (.cells #[.string c, .string p] 24)) W → W.cell? ⟨w.heap.size, 0, none⟩ = some (.string c) ∧ W.cell? ⟨w.heap.size, 1, none⟩ = some (.string p) := by
  intro W hb
  have h := (hb.block w.heap.size (by simp)).trans (heap_alloc_last w (.cells #[.string c, .string p] 24))
  exact ⟨by rw [cell_of_row W _ 0 _ _ _ h]; rfl, by rw [cell_of_row W _ 1 _ _ _ h]; rfl⟩
theorem encode_any (m : Nat) (hm : m < 4294967296) (c p : ByteArray) (hc : c.size ≤ maxLen) (hp : p.size ≤ maxLen) (w : World) (hK : Kg w) : Calls Tryd.prog 6 #[.int .u32 m, .agg #[.string c, .string p]] w fun e w' => e = .returned (.tuple #[.string (txt (encT m c.data.toList p.data.toList)), .int .i64 (encE c.data.toList p.data.toList)]) ∧ Below w.heap.size w w' := by
  have HC := hide fun W => command_any c W hc
  unfold maxLen at hc hp
  have hcl : c.data.toList.length = c.size := by simp
  have hpl : p.data.toList.length = p.size := by simp
  have b1 : Below w.heap.size w (w.alloc (.cells #[.string c, .string p] 24)) := (Below.refl _ _).alloc (Nat.le_refl _) _
  have K1 := hide (hK.next b1)
  have F1 := hide (frame_cells w c p)
  clear hK
  cases hO : okCmd c.data.toList with
  | false =>
    rw [hO] at HC
    have HE : Hid (encE c.data.toList p.data.toList = 81) := by simp [Hid, encE, hO]
    have HT : Hid (encT m c.data.toList p.data.toList = []) := by simp [Hid, encT, HE.out]
    rw [HE.out, HT.out]
    go_enter Tryd.func6, Tryd.ntmps6
    go_wp2_with (first | refine wpList_boxA rfl _ rfl #[.string c, .string p] rfl ?_ | (go_at_call 9; refine (HC.out _).mono ?_; rintro e w1 ⟨rfl, rfl⟩))
    go_ret2
    exact ⟨rfl, b1⟩
  | true =>
    rw [hO] at HC
    by_cases hlong : (16384 : Int) < p.size
    · have HE : Hid (encE c.data.toList p.data.toList = 82) := by
        unfold Hid encE
        rw [hO, if_neg (by decide), if_pos (by omega)]
      have HT : Hid (encT m c.data.toList p.data.toList = []) := by simp [Hid, encT, HE.out]
      rw [HE.out, HT.out]
      go_enter Tryd.func6, Tryd.ntmps6
      go_wp2_with (first | refine wpList_boxA rfl _ rfl #[.string c, .string p] rfl ?_ | (go_at_call 9; refine (HC.out _).mono ?_; rintro e w1 ⟨rfl, rfl⟩))
      go_ret2
      exact ⟨rfl, b1⟩
    · have hl := okCmd_len hO
      rw [hcl] at hl
      have HE := hide (encE_0 hO (show p.data.toList.length ≤ 16384 by omega))
      have HT : Hid (encT m c.data.toList p.data.toList = encB m c.data.toList p.data.toList) := by
        unfold Hid encT
        rw [if_pos HE.out]
      rw [HE.out, HT.out]
      have HS := hide fun W hW => fsum_any p (by omega) W hW
      have hsn := sumN_lt p.data.toList
      have HB : Hid (txt (lowL m 4 ++ (c.data.toList ++ (List.replicate (12 - c.size) 0 ++ (lowL p.size 4 ++ (lowL (sumN p.data.toList) 4 ++ p.data.toList))))) = txt (encB m c.data.toList p.data.toList)) := by
        unfold Hid encB
        rw [hcl, hpl]
        simp only [List.append_assoc]
      generalize sumN p.data.toList = sn at *
      have hl1 := hl.1
      have hl2 := hl.2
      clear hl hcl hpl
      have HRp : Hid (∀ W, Calls Tryd.prog 26 #[.string ⟨#[0]⟩, .int .i64 (12 - (c.size : Int))] W fun e w' => e = .returned (.string (txt (List.replicate (12 - c.size) 0))) ∧ Below W.heap.size W w') := fun W => by
        have := strings_Repeat ⟨#[0]⟩ (12 - c.size) W (by omega) (by rw [show (⟨#[0]⟩ : ByteArray).size = 1 from rfl]; omega)
        rw [show (⟨#[0]⟩ : ByteArray).data.toList = [0] from rfl, rep0, show ((12 - c.size : Nat) : Int) = 12 - (c.size : Int) by omega] at this
        exact this
      have HK : Hid (∀ W, Below (w.alloc (.cells #[.string c, .string p] 24)).heap.size (w.alloc (.cells #[.string c, .string p] 24)) W → Kg W) := fun W hb => K1.out.next hb
      go_enter Tryd.func6, Tryd.ntmps6
      go_upto_region 5 with (first | refine wpList_boxA rfl _ rfl #[.string c, .string p] rfl ?_ | (go_at_call 9; refine (HC.out _).mono ?_; rintro e w1 ⟨rfl, rfl⟩))
      generalize w.alloc (.cells #[.string c, .string p] 24) = W1 at *
      have J0 := hide (Wb.new W1)
      go_upto_region 6 with (go_at_call 23; refine (newWriter_any _).mono ?_; rintro e w2 ⟨rfl, rfl⟩)
      generalize W1.alloc (.cells #[.slice none 0 0] 78) = W2 at *
      go_upto_region 7 with (go_at_call 24; refine (wU32 _ _ m hm _ (by simp) J0.out.st).mono ?_; rintro e w3 ⟨rfl, s3, f3⟩)
      have J3 := hide (J0.out.step s3 f3)
      have x0 := (F1.out _ J3.out.bel).1
      have x1 := (F1.out _ J3.out.bel).2
      clear s3 f3 J0
      have zl : (lowL m 4).length = 4 := lowL_len _ _
      go_upto_region 8 with (go_at_call 25; refine (wBytes _ _ c (.inr (by omega)) _ (by simp; omega) J3.out.st).mono ?_; rintro e w4 ⟨rfl, s4, f4⟩)
      have J4 := hide (J3.out.step s4 f4)
      clear s4 f4 x0 x1 J3
      have x0 := (F1.out _ J4.out.bel).1
      have x1 := (F1.out _ J4.out.bel).2
      go_upto_region 9 with (first | (go_at_call 26; refine (HRp.out _).mono ?_; rintro e w5 ⟨rfl, b5⟩; have J5 := hide (J4.out.next b5); clear b5) | (go_at_call 25; refine (wBytes _ _ (txt (List.replicate (12 - c.size) 0)) (.inr (by rw [txt_size, List.length_replicate]; omega)) _ (by simp; omega) J5.out.st).mono ?_; rintro e w6 ⟨rfl, s6, f6⟩))
      have J6 := hide (J5.out.step s6 f6)
      rw [txt_list] at J6
      clear s6 f6 x0 x1 J4 J5
      have x0 := (F1.out _ J6.out.bel).1
      have x1 := (F1.out _ J6.out.bel).2
      go_upto_region 10 with (go_at_call 24; refine (wU32 _ _ p.size (by omega) _ (by simp; omega) J6.out.st).mono ?_; rintro e w7 ⟨rfl, s7, f7⟩)
      have J7 := hide (J6.out.step s7 f7)
      clear s7 f7 x0 x1 J6
      have x0 := (F1.out _ J7.out.bel).1
      have x1 := (F1.out _ J7.out.bel).2
      go_upto_region 11 with (first | (go_at_call 11; refine (HS.out _ (HK.out _ J7.out.bel)).mono ?_; rintro e w8 ⟨rfl, b8⟩; have J8 := hide (J7.out.next b8); clear b8) | (go_at_call 24; refine (wU32 _ _ sn hsn _ (by simp [lowL_len]; omega) J8.out.st).mono ?_; rintro e w9 ⟨rfl, s9, f9⟩))
      have J9 := hide (J8.out.step s9 f9)
      clear s9 f9 x0 x1 J7 J8
      have x0 := (F1.out _ J9.out.bel).1
      have x1 := (F1.out _ J9.out.bel).2
      go_upto_region 12 with (go_at_call 25; refine (wBytes _ _ p (.inr (by omega)) _ (by simp [lowL_len]; omega) J9.out.st).mono ?_; rintro e w10 ⟨rfl, s10, f10⟩)
      have J10 := hide (J9.out.step s10 f10)
      clear s10 f10 x0 x1 J9
      go_wp2_with (go_at_call 27; refine (wText _ _ _ J10.out.st).mono ?_; rintro e w11 ⟨rfl, rfl⟩)
      go_ret2
      rw [← HB.out]
      exact ⟨rfl, b1.trans (J10.out.bel.mono b1.size)⟩
end
end Go.Proofs.YtjcfojedahgfpaaDoor
