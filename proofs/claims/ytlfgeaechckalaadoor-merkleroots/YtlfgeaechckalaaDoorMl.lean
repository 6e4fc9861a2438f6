/- The contract of the document's Branch. -/
import Derived.Test.YtlfgeaechckalaaDoorMk
namespace Go.Proofs.YtlfgeaechckalaaDoor
open Go.RowKit
open Go.Deep
section
set_option maxRecDepth 10000
set_option maxHeartbeats 4000000
theorem rbranch_any (v : Value) (L : List (List UInt8)) (p : Nat) (w : World) (hL : LH w v L) (hp : p < L.length) (hn : L.length < 4294967296) : Calls Tryd.prog 22 #[v, .int .i64 (p : Int)] w fun e w' => ∃ v', e = .returned v' ∧ Oj 24 w w' v' (brL L p) := by
  obtain ⟨ao, cap, rfl⟩ := hL.form
  have HL := hide hL
  have HN := hide (And.intro hp hn)
  have H3 := hide hL.1
  have HP0 := hide (show p / 2 ^ 0 = p by simp)
  have J0 : Hid (Oj 24 w (w.alloc (.cells #[] 24)) (.slice (some ⟨w.heap.size, 0, none⟩) 0 0) (brK L p 0)) := ⟨OH.new0 w, (Below.refl _ _).alloc (Nat.le_refl _) _, fun g hg => by cases hg; exact Nat.le_refl _⟩
  have L0 : Hid (LH (w.alloc (.cells #[] 24)) (.slice ao L.length cap) (lv L 0)) := HL.out.below J0.out.bel
  have A0 : Hid (Apart (.slice (some ⟨w.heap.size, 0, none⟩) 0 0) (.slice ao L.length cap)) := fun g hg h => by
    cases hg
    exact Nat.lt_irrefl _ (HL.out.lt (by have := HN.out.1; omega) _ h)
  clear hL hp hn HL
  go_enter Tryd.func22, Tryd.ntmps22
  go_wp2_with (refine ET.wpBs0 ER rfl rfl ?_)
  generalize w.alloc (.cells #[] 24) = W0 at *
  go_loopw [0, 1, 5, 6] (fun l q b _ wr => ∃ k : Nat, q = .int .i64 ((p / 2 ^ k : Nat) : Int) ∧ Hid (Oj 24 w wr b (brK L p k)) ∧ Hid (LH wr l (lv L k)) ∧ Hid (dp (lv L k).length + k = dp L.length) ∧ Hid (Apart b l)) (fun l _ _ _ _ => lenV2 l)
  case atStart => exact ⟨0, by rw [HP0.out], J0, L0, rfl, A0⟩
  case round =>
    clear J0 L0 A0
    obtain ⟨k, rfl, J, JL, HD, AP⟩ := hrel
    obtain ⟨ao4, cap4, rfl⟩ := JL.out.form
    have hle := lv_le L k
    have hwl := way_lt L p HN.out.1 k
    have hn := HN.out.2
    have hpos : 0 < (lv L k).length := Nat.lt_of_le_of_lt (Nat.zero_le _) hwl
    have hx32 : p / 2 ^ k < 4294967296 := Nat.lt_of_lt_of_le hwl (Nat.le_of_lt (Nat.lt_of_le_of_lt hle hn))
    by_cases hlt : 1 < (lv L k).length
    · have h1 : (1 : Int) < ((lv L k).length : Int) := by omega
      obtain ⟨g, off, rfl⟩ := JL.out.base (by omega)
      have HD2 : Hid (dp (lv L (k + 1)).length + (k + 1) = dp L.length) := by
        show _ = _
        rw [← HD.out, dp_step _ hlt, lv, nxt_len]
        omega
      have hm := mt_lt (lv L k).length (p / 2 ^ k) hwl
      have hmr := mt_ref (lv L k).length (p / 2 ^ k) hwl
      have l1 := hide ((lv_32 H3.out k).at _ hm)
      have R1 := hide (JL.out.range _ hm)
      have HNx := hide fun W hW => rnext_any (.slice (some ⟨g, off, none⟩) (lv L k).length cap4) (lv L k) W hW (by omega)
      rw [show nxt (lv L k) = lv L (k + 1) from rfl] at HNx
      have ME := hide (show (lv L (k + 1)).length < (lv L k).length by rw [lv, nxt_len]; omega)
      have SN := hide (brK_snoc L p k)
      rw [show brA L p k = ia (lv L k) (mt (lv L k).length (p / 2 ^ k)) from rfl] at SN
      have hd32 : k ≤ 32 := by
        have := dp_le L.length hn
        have := HD.out
        omega
      have SZ := hide (show (brK L p k).length + 1 ≤ 4398046511104 by rw [brK_len]; omega)
      have HW := hide (half_way p k)
      generalize ia (lv L k) (mt (lv L k).length (p / 2 ^ k)) = A at *
      generalize mt (lv L k).length (p / 2 ^ k) = q at *
      have J1 := hide (J.out.next ((Below.refl _ _).alloc (Nat.le_refl _) (.cells (hc A) 24)))
      have JL1 := hide (JL.out.below ((Below.refl _ _).alloc (Nat.le_refl _) (.cells (hc A) 24)))
      generalize p / 2 ^ k = x1 at *
      generalize twb (lv L k) = tb at *
      have h3 : (q : Int) < ((lv L k).length : Int) := by omega
      have h4 : (0 : Int) ≤ (q : Int) := by omega
      have h5 : (x1 : Int) / 2 = ((x1 / 2 : Nat) : Int) := by omega
      have h6 : (0 : Int) ≤ (x1 : Int) := by omega
      have h7 : wrap64 ((x1 / 2 : Nat) : Int) = ((x1 / 2 : Nat) : Int) := by unfold wrap64; omega
      have e1 : IntKind.i64.wrap ((x1 : Int) + 1) = (x1 : Int) + 1 := wrapI _ (by omega) (by omega)
      have e2 : IntKind.i64.wrap (2 * ((x1 : Int) % 2)) = 2 * ((x1 : Int) % 2) := wrapI _ (by omega) (by omega)
      have e3 : IntKind.i64.wrap ((x1 : Int) + 1 - 2 * ((x1 : Int) % 2)) = ((x1 + 1 - 2 * (x1 % 2) : Nat) : Int) := by rw [wrapI _ (by omega) (by omega)]; omega
      obtain ⟨y, hy⟩ : ∃ y, y = x1 + 1 - 2 * (x1 % 2) := ⟨_, rfl⟩
      rw [← hy] at e3 hmr
      generalize hq2 : x1 / 2 = x2 at *
      have KEY : (((y : Int) == ((lv L k).length : Int)) = true ∧ q = x1) ∨ (((y : Int) == ((lv L k).length : Int)) = false ∧ q = y) := by
        by_cases e : y = (lv L k).length
        · exact .inl ⟨by simp [e], by rw [hmr, if_pos e]⟩
        · exact .inr ⟨by rw [beq_eq_false_iff_ne]; omega, by rw [hmr, if_neg e]⟩
      clear hlt hle hwl hn hm hd32 hq2 hpos hx32 hmr hy
      rcases KEY with ⟨t1, rfl⟩ | ⟨t1, rfl⟩
      all_goals
        go_upto_region 7 with (first | refine ET.wpLoad ER rfl _ rfl g (off + q * 32) rfl A l1.out R1.out ?_ | refine ET.wpBs1 ER rfl _ rfl A l1.out rfl ?_ | (at_builtin; refine ET.wpApp ER rfl _ _ rfl u5 _ rfl J1.out.own ⟨_, 0, none⟩ A l1.out rfl (one_newH _ _) SZ.out ?_; intro v' w3 hown' hon3; have J3 := hide (J1.out.onto hon3 hown'); have JL3 := hide (JL1.out.onto hon3 AP.out)))
        rw [← SN.out] at J3
        clear hown' hon3 J J1 JL JL1 R1
        go_wp2_with (first | (go_at_call 20; refine (HNx.out _ JL3.out).mono ?_; rintro e w4 ⟨v4, rfl, o4⟩; have J4 := hide (J3.out.next o4.bel); have JL4 := hide o4.own.read; have AP4 := hide (apart_new J3.out.own o4); clear o4))
        obtain ⟨ao2, cap2, rfl⟩ := JL4.out.form
        exact ⟨⟨k + 1, by rw [← HW.out]; first | rfl | rw [h7], J4, JL4, HD2, AP4⟩, by simpa [lenV2] using ME.out⟩
    · have h1 : ¬ (1 : Int) < ((lv L k).length : Int) := by omega
      have hl1 : (lv L k).length = 1 := by omega
      have hk : k = dp L.length := by
        have := HD.out
        rw [hl1, dp_low 1 (by omega)] at this
        omega
      have HE := hide (show brL L p = brK L p k by unfold brL; rw [hk])
      clear hlt hle hwl hn hl1 hk hpos hx32
      generalize p / 2 ^ k = x1 at *
      go_wp2
      go_ret
      exact ⟨u5, rfl, by rw [HE.out]; exact J.out⟩
end
end Go.Proofs.YtlfgeaechckalaaDoor
