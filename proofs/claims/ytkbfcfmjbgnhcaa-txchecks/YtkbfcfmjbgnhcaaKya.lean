/- The document's lay and Count of layer 10: their contracts. -/
import Derived.Test.YtkbfcfmjbgnhcaaKc
namespace Go.Proofs.Ytkbfcfmjbgnhcaa
open Go.RowKit
open Go.Deep
set_option linter.unusedVariables false
theorem bs0U (w : World) : (Instr.buildSlice 74 0 #[]).run Try.prog w = .ok (.slice (some ⟨w.heap.size, 0, none⟩) 0 0) (w.alloc (.cells #[] 5)) := by kernel_rfl
section
set_option maxRecDepth 10000
set_option maxHeartbeats 4000000
theorem lay_any (n k : Nat) (K : Int) (hK : K = k) (hn : U64 n) (w : World) (hk : k ≤ 8) : Calls Try.prog 38 #[.int .u64 n, .int .i64 K] w fun e w' => e = .returned (.string (txt (lowL n k))) ∧ Below w.heap.size w w' := by
  subst hK
  have h5 := bs0U w
  have O0 : Own (w.alloc (.cells #[] 5)) (.slice (some ⟨w.heap.size, 0, none⟩) 0 0) [] := World.ownsRow_made w #[] 0 (Nat.zero_le _) (Nat.zero_le _) rfl
  have B0 : Below w.heap.size w (w.alloc (.cells #[] 5)) := (Below.refl _ _).alloc (Nat.le_refl _) _
  have J0 := hide (And.intro O0 B0)
  clear O0 B0
  go_enter Try.func38, Try.ntmps38
  go_upto_region 3 with fail
  clear h5
  generalize hW : w.alloc (.cells #[] 5) = W0 at *
  go_loopw [0, 5, 6] (fun m v i wr => ∃ (j x : Nat) (l : List UInt8), j ≤ k ∧ i = .int .i64 (j : Int) ∧ m = .int .u64 (x : Nat) ∧ U64 x ∧ Own wr v l ∧ Hid (l ++ lowL x (k - j) = lowL n k) ∧ Hid (Below w.heap.size w wr) ∧ Hid (∀ g, v.ownBlock = some g → w.heap.size ≤ g)) (fun _ _ i _ => (k - intOf i).toNat)
  case atStart => exact ⟨0, n, [], Nat.zero_le _, rfl, rfl, hn, J0.out.1, by simp [Hid], J0.out.2, fun g hg => by cases hg; exact Nat.le_refl _⟩
  case round =>
    clear J0
    obtain ⟨j, x, l, hj, rfl, rfl, hx, ho, hl, hg, hfar⟩ := hrel
    obtain ⟨ao, nn, cc, rfl, hnn⟩ := ho.form
    by_cases hlt : j < k
    · have hll : l.length ≤ 8 := by
        have := congrArg List.length hl.out
        simp only [List.length_append, lowL_len] at this
        omega
      have HO := hide ho
      clear ho
      go_wp2_with (at_builtin; refine wpList_app rfl _ _ rfl (.slice ao nn cc) l rfl (HO.out.alloc _) ⟨_, 0, none⟩ 1 1 [UInt8.ofNat (x % 256)] rfl rfl (one_new _ _ _ (byte_of x)) (by omega) ?_; intro v' W3 ho3 on3)
      refine ⟨⟨j + 1, x / 256, l ++ [UInt8.ofNat (x % 256)], by omega, by go_num, ?_, hx.div, ho3, ?_, ?_, ?_⟩, by simp [intOf]; omega⟩
      · have := hx.lt
        rw [wrapu _ (by omega) (by omega)]
        rfl
      · have := hl.out
        rw [show k - j = (k - (j + 1)) + 1 by omega] at this
        simpa [Hid, lowL] using this
      · have g := on3.grown
        have b1 := hg.out.size
        have ba : Below wr.heap.size wr (wr.alloc (.cells #[.int .u8 ((x : Int) % 256)] 5)) := (Below.refl _ _).alloc (Nat.le_refl _) _
        have b2 := ba.size
        refine ⟨(g.os.trans ba.os).trans hg.out.os, (g.tape.trans ba.tape).trans hg.out.tape, (g.output.trans ba.output).trans hg.out.output, by have := g.size; omega, fun q hq => ((g.block q (by omega) (fun e => by have := hfar.out q e.symm; omega)).trans (ba.block q (by omega))).trans (hg.out.block q hq)⟩
      · intro q hq
        have b1 := hg.out.size
        rcases on3.lies with r | ⟨c, r, hc⟩
        · exact hfar.out q (by rw [← r]; exact hq)
        · rw [r] at hq
          cases hq
          have : wr.heap.size ≤ (wr.alloc (.cells #[.int .u8 ((x : Int) % 256)] 5)).heap.size := by simp
          omega
    · have he : l = lowL n k := by
        have := hl.out
        rw [show k - j = 0 by omega] at this
        simpa [lowL] using this
      subst he
      have hcv := conv_own ho
      go_wp2
      go_ret
      exact ⟨rfl, hg.out⟩
set_option maxHeartbeats 400000 in
theorem countR_any (n : Nat) (hn : U64 n) (w : World) : Calls Try.prog 39 #[.int .u64 n] w fun e w' => e = .returned (.string (txt (countL n))) ∧ Below w.heap.size w w' := by
  by_cases h1 : n < 253
  · have hL : countL n = lowL n 1 := by unfold countL; rw [if_pos h1]
    rw [hL]
    clear hL
    go_enter Try.func39, Try.ntmps39
    go_wp2_with (go_at_call 38; refine (lay_any n 1 1 rfl hn _ (by omega)).mono ?_; rintro e w' ⟨rfl, hbel⟩)
    go_ret
    exact ⟨rfl, hbel⟩
  by_cases h2 : n ≤ 65535
  · have hL : countL n = 253 :: lowL n 2 := by unfold countL; rw [if_neg h1, if_pos h2]
    rw [hL]
    clear hL
    have q1 : ¬ (n : Int) < 253 := by omega
    have k2 : (n : Int) < 65536 := by omega
    have hll : (txt (lowL n 2)).size = 2 := by rw [txt_sz, lowL_len]
    have HE : Hid ((⟨#[253]⟩ : ByteArray) ++ txt (lowL n 2) = txt (253 :: lowL n 2)) := by show _ = _; apply ByteArray.ext; simp [txt]
    have HL := hide (fun W => lay_any n 2 2 rfl hn W (by omega))
    generalize txt (lowL n 2) = tl at *
    generalize txt (253 :: lowL n 2) = tr at *
    clear h1 h2 hn
    generalize (n : Int) = N at *
    go_enter Try.func39, Try.ntmps39
    go_wp2_with (go_at_call 38; refine (HL.out _).mono ?_; rintro e w' ⟨rfl, hbel⟩)
    go_ret
    exact ⟨congrArg (fun b => Ending.returned (Value.string b)) HE.out, hbel⟩
  by_cases h3 : n ≤ 4294967295
  · have hL : countL n = 254 :: lowL n 4 := by unfold countL; rw [if_neg h1, if_neg h2, if_pos h3]
    rw [hL]
    clear hL
    have q1 : ¬ (n : Int) < 253 := by omega
    have k2 : ¬ (n : Int) < 65536 := by omega
    have k3 : (n : Int) < 4294967296 := by omega
    have hll : (txt (lowL n 4)).size = 4 := by rw [txt_sz, lowL_len]
    have HE : Hid ((⟨#[254]⟩ : ByteArray) ++ txt (lowL n 4) = txt (254 :: lowL n 4)) := by show _ = _; apply ByteArray.ext; simp [txt]
    have HL := hide (fun W => lay_any n 4 4 rfl hn W (by omega))
    generalize txt (lowL n 4) = tl at *
    generalize txt (254 :: lowL n 4) = tr at *
    clear h1 h2 h3 hn
    generalize (n : Int) = N at *
    go_enter Try.func39, Try.ntmps39
    go_wp2_with (go_at_call 38; refine (HL.out _).mono ?_; rintro e w' ⟨rfl, hbel⟩)
    go_ret
    exact ⟨congrArg (fun b => Ending.returned (Value.string b)) HE.out, hbel⟩
  · have hL : countL n = 255 :: lowL n 8 := by unfold countL; rw [if_neg h1, if_neg h2, if_neg h3]
    rw [hL]
    clear hL
    have q1 : ¬ (n : Int) < 253 := by omega
    have k2 : ¬ (n : Int) < 65536 := by omega
    have k3 : ¬ (n : Int) < 4294967296 := by omega
    have hll : (txt (lowL n 8)).size = 8 := by rw [txt_sz, lowL_len]
    have HE : Hid ((⟨#[255]⟩ : ByteArray) ++ txt (lowL n 8) = txt (255 :: lowL n 8)) := by show _ = _; apply ByteArray.ext; simp [txt]
    have HL := hide (fun W => lay_any n 8 8 rfl hn W (by omega))
    generalize txt (lowL n 8) = tl at *
    generalize txt (255 :: lowL n 8) = tr at *
    clear h1 h2 h3 hn
    generalize (n : Int) = N at *
    go_enter Try.func39, Try.ntmps39
    go_wp2_with (go_at_call 38; refine (HL.out _).mono ?_; rintro e w' ⟨rfl, hbel⟩)
    go_ret
    exact ⟨congrArg (fun b => Ending.returned (Value.string b)) HE.out, hbel⟩
end
end Go.Proofs.Ytkbfcfmjbgnhcaa
