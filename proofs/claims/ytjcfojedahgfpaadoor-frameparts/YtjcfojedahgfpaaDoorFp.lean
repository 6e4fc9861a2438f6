/- Frames: the contract of awake; FrameNil's walk. -/
import Derived.Test.YtjcfojedahgfpaaDoorFo
namespace Go.Proofs.YtjcfojedahgfpaaDoor
open Go.RowKit
open Go.Deep
theorem Sq.feed_new (m : Nat) (l : List UInt8) (h : l.length ≤ 32816) : (⟨m, [], 0, 0⟩ : Sq).feed l = (⟨m, l, 0, 0⟩, l.length) := by
  unfold Sq.feed
  rw [if_neg (by simp)]
  simp only [List.length_nil, List.nil_append, Nat.sub_zero]
  rw [List.take_of_length_le h, Nat.min_eq_left h]
/-- A stream at whose front there is a frame. -/
theorem Sq.next_frame (m : Nat) (c p t : List UInt8) (k : Int) (hc : okCmd c = true) (hp : p.length ≤ 16384) : (⟨m, encB m c p ++ t, 0, k⟩ : Sq).next = (⟨m, t, 0, IntKind.i64.wrap (k + 1)⟩, ⟨0, true, c, p⟩) := by
  have hh := encB_head m c p t hc hp
  have hl := encB_len m c p (okCmd_len hc).2
  unfold Sq.next
  rw [if_neg (by simp)]
  simp only [Sq.frontE, Sq.whole, hh]
  rw [if_neg (by simp), if_neg (by rw [List.length_append, hl]; omega), encB_dec m c p t hc hp]
  simp only
  rw [if_neg (by simp), drop_app_len _ _ _ hl.symm]
section
set_option maxRecDepth 10000
set_option maxHeartbeats 4000000
theorem awake8_any (w : World) (hK : Kg w) : Calls Tryd.prog 8 #[] w fun e w' => e = .returned (.bool true) ∧ Below w.heap.size w w' := by
  have hcm : okCmd [97] = true := by decide
  have he : encE [97] [120, 121] = 0 := encE_0 hcm (by decide)
  have HE : Hid (∀ W, Kg W → Calls Tryd.prog 6 #[.int .u32 7, .agg #[.string ⟨#[97]⟩, .string ⟨#[120, 121]⟩]] W fun e w' => e = .returned (.tuple #[.string (txt (encB 7 [97] [120, 121])), .int .i64 0]) ∧ Below W.heap.size W w') := fun W hW => by
    have := encode_any 7 (by decide) ⟨#[97]⟩ ⟨#[120, 121]⟩ (by decide) (by decide) W hW
    rw [show (⟨#[97]⟩ : ByteArray).data.toList = [97] from rfl, show (⟨#[120, 121]⟩ : ByteArray).data.toList = [120, 121] from rfl, he, encT, if_pos he] at this
    exact this
  have hlen : (encB 7 [97] [120, 121]).length = 26 := encB_len 7 [97] [120, 121] (by decide)
  have hfd := Sq.feed_new 7 (encB 7 [97] [120, 121]) (by omega)
  have hnx := Sq.next_frame 7 [97] [120, 121] [] 0 hcm (by decide)
  rw [List.append_nil] at hnx
  have hsz : (txt (encB 7 [97] [120, 121])).size = 26 := by rw [txt_size, hlen]
  have HFD : Hid (∀ {B W : World} {b : Nat} {v : Value}, Sm [] B W b v ⟨7, [], 0, 0⟩ → Calls Tryd.prog 17 #[.pointer (some ⟨b, 0, none⟩), .string (txt (encB 7 [97] [120, 121]))] W fun e w' => e = .returned (.int .i64 26) ∧ ∃ v', Sm [] B w' b v' ⟨7, encB 7 [97] [120, 121], 0, 0⟩) := fun h => by
    have := feed_any h (txt (encB 7 [97] [120, 121])) (by rw [hsz]; unfold maxLen; decide)
    rw [txt_list, hfd, hlen] at this
    exact this
  have HNX : Hid (∀ {B W : World} {b : Nat} {v : Value}, Sm [] B W b v ⟨7, encB 7 [97] [120, 121], 0, 0⟩ → Kg W → Calls Tryd.prog 18 #[.pointer (some ⟨b, 0, none⟩)] W fun e w' => e = .returned (.tuple #[.agg (fr2 [97] [120, 121]), .bool true, .int .i64 0]) ∧ Below B.heap.size B w') := fun h hW => by
    have := next_any h hW
    rw [hnx] at this
    refine this.mono ?_
    rintro e w' ⟨rfl, v', h'⟩
    exact ⟨rfl, h'.bel⟩
  generalize encB 7 [97] [120, 121] = T at *
  clear he hlen hfd hnx hcm
  have KW : Hid (∀ W, Below w.heap.size w W → Kg W) := fun W h => hK.next h
  clear hK
  go_enter Tryd.func8, Tryd.ntmps8
  go_upto_region 2 with (go_at_call 6; refine (HE.out _ (KW.out _ (Below.refl _ _))).mono ?_; rintro e w1 ⟨rfl, b1⟩)
  have B1 := hide b1
  clear b1
  go_upto_region 3 with (go_at_call 15; refine (fnew_any 7 _).mono ?_; rintro e w2 ⟨rfl, rfl⟩)
  have J2 := hide (Sm.new w1 7 (by decide))
  generalize w1.alloc (.cells (sc4 ⟨7, [], 0, 0⟩ (.slice none 0 0)) 73) = W2 at *
  generalize w1.heap.size = gs at *
  go_upto_region 5 with (go_at_call 17; refine (HFD.out J2.out).mono ?_; rintro e w3 ⟨rfl, v3, j3⟩; have J3 := hide j3; clear j3)
  go_upto_region 6 with (first | (go_at_call 18; refine (HNX.out J3.out (KW.out _ (below_next B1.out J3.out.bel))).mono ?_; rintro e w4 ⟨rfl, b4⟩) | refine wpList_allocA AF rfl rfl ?_ | refine wpList_store_newA AF rfl _ _ rfl _ rfl (fr2 [97] [120, 121]) rfl (fr2_one _ _) rfl rfl ?_)
  have B4 := hide (below_next B1.out b4)
  clear b4
  unfold fr2 txt
  go_wp2
  go_ret
  exact ⟨rfl, B4.out.alloc B4.out.size _⟩
theorem frameNil_walk (s : ByteArray) (_ : s.size ≤ 140737488351232) (w : World) (hK : Kg w) : Calls Tryd.prog 5 #[.string s] w fun e w' => e = .returned (.bool true) ∧ Below w.heap.size w w' := by
  have KW : Hid (∀ W, Below w.heap.size w W → Kg W) := fun W h => hK.next h
  clear hK
  go_enter Tryd.func5, Tryd.ntmps5
  go_upto_region 3 with (first | (go_at_call 18; refine (next_nil _).mono ?_; rintro e w1 ⟨rfl, b1⟩) | refine wpList_allocA AF rfl rfl ?_ | refine wpList_store_newA AF rfl _ _ rfl _ rfl fz2 rfl fz2_one rfl rfl ?_)
  have B2 := hide (b1.alloc b1.size (.cells fz2 24))
  have R2 := hide (heap_alloc_last w1 (.cells fz2 24))
  clear b1
  generalize w1.alloc (.cells fz2 24) = W2 at *
  generalize w1.heap.size = gf at *
  go_wp2_with (first | (go_at_call 8; refine (awake8_any _ (KW.out _ B2.out)).mono ?_; rintro e w3 ⟨rfl, b3⟩; have R3 := (b3.block _ (lt_heap R2.out)).trans R2.out; have x0 : w3.cell? ⟨gf, 0, none⟩ = some (.string ⟨#[]⟩) := (by rw [cell_of_row w3 gf 0 _ _ _ R3]; rfl); have x1 : w3.cell? ⟨gf, 1, none⟩ = some (.string ⟨#[]⟩) := (by rw [cell_of_row w3 gf 1 _ _ _ R3]; rfl); have B3 := hide (below_next B2.out b3); clear R3 b3) | (go_at_call 17; refine (feed_nil _ _).mono ?_; rintro e w4 ⟨rfl, hw⟩; subst w4) | (go_at_call 16; refine (held_nil _).mono ?_; rintro e w4 ⟨rfl, hw⟩; subst w4) | (go_at_call 21; refine (need_nil _).mono ?_; rintro e w4 ⟨rfl, hw⟩; subst w4) | (go_at_call 19; refine (taken_nil _).mono ?_; rintro e w4 ⟨rfl, hw⟩; subst w4) | (go_at_call 20; refine (broken_nil _).mono ?_; rintro e w4 ⟨rfl, hw⟩; subst w4) | (go_at_call 22; refine (clone_nil _).mono ?_; rintro e w4 ⟨rfl, hw⟩; subst w4))
  go_ret
  exact ⟨rfl, B3.out⟩
end
end Go.Proofs.YtjcfojedahgfpaaDoor
