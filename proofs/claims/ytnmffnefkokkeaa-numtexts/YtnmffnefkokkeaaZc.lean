/- Texts to the base 16: the contract of the document's Unhex. -/
import Derived.Test.YtnmffnefkokkeaaZb
namespace Go.Proofs.Ytnmffnefkokkeaa
open Go.RowKit
theorem unhexS_bad (s : ByteArray) (k : Nat) (h : k < s.size) (ha : (s.data.toList.take k).all isD = true) (hb : isD s[k] = false) : unhexS s = (⟨#[]⟩, (k : Int)) := by
  have e := good_at s.data.toList k (by simp; omega) ha (fun _ => hb)
  unfold unhexS
  rw [e, if_pos h]
theorem good_full (s : ByteArray) (ha : s.data.toList.all isD = true) : good s.data.toList = s.size := by
  have := good_at s.data.toList s.data.toList.length (Nat.le_refl _) (by rw [List.take_length]; exact ha) (fun h => absurd h (Nat.lt_irrefl _))
  rw [this]
  simp
theorem unhexS_odd (s : ByteArray) (ha : s.data.toList.all isD = true) (h : s.size % 2 = 1) : unhexS s = (⟨#[]⟩, (s.size : Int)) := by
  unfold unhexS
  rw [good_full s ha, if_neg (Nat.lt_irrefl _), if_pos h]
theorem unhexS_ok (s : ByteArray) (ha : s.data.toList.all isD = true) (h : ¬ s.size % 2 = 1) : unhexS s = (⟨(unhexL s.data.toList).toArray⟩, -1) := by
  unfold unhexS
  rw [good_full s ha, if_neg (Nat.lt_irrefl _), if_neg h]
theorem unhexL_snoc (s : ByteArray) (k : Nat) (h : 2 * k + 1 < s.size) : (unhexL s.data.toList).take (k + 1) = (unhexL s.data.toList).take k ++ [UInt8.ofNat (vd s[2 * k].toNat * 16 + vd s[2 * k + 1].toNat)] := by
  rw [List.take_add_one, unhexL_at s.data.toList k (by simpa using h)]
  rfl
theorem two_digits (b1 b2 : UInt8) (h1 : vd b1.toNat < 16) (h2 : vd b2.toNat < 16) : (vd b1.toNat : Int) * 16 + vd b2.toNat = ((UInt8.ofNat (vd b1.toNat * 16 + vd b2.toNat)).toNat : Int) := by
  rw [UInt8.toNat_ofNat']
  omega
theorem str_snoc {T : ByteArray} {L L' : List UInt8} {b : UInt8} (h : T.data.toList = L) (h' : L' = L ++ [b]) : T ++ (⟨#[b]⟩ : ByteArray) = ⟨L'.toArray⟩ := by
  subst h h'
  apply ByteArray.ext
  apply Array.ext'
  simp
section
set_option maxRecDepth 10000
set_option maxHeartbeats 400000
theorem runhex_any (s : ByteArray) (hs : s.size ≤ 281474976710656) (w : World) : Calls Try.prog 15 #[.string s] w fun e w' =>
    e = .returned (.tuple #[.string (unhexS s).1, .int .i64 (unhexS s).2]) ∧ Below w.heap.size w w' := by
  go_enter Try.func15, Try.ntmps15
  go_wp2
  go_loop [4] (fun c => ∃ k : Nat, k ≤ s.size ∧ c = .int .i64 k ∧ Hid ((s.data.toList.take k).all isD = true)) (fun c => (s.size - intOf c).toNat)
  case atStart => exact ⟨0, Nat.zero_le _, rfl, by simp [Hid]⟩
  case round =>
    obtain ⟨k, hk, rfl, ha⟩ := hrel
    by_cases hlt : k < s.size
    · by_cases hd : isD s[k] = true
      · have hv : vd s[k].toNat ≠ 16 := by simpa [isD] using hd
        have hv' : ((vd s[k].toNat : Int) == 16) = false := by simp; omega
        have HS := hide (all_snoc s k hlt ha.out hd)
        clear hd
        go_wp2_with (go_at_call 52; refine (value_any _ _).mono ?_; rintro e w1 ⟨rfl, rfl⟩)
        exact ⟨⟨k + 1, by omega, by go_num, HS.out⟩, by simp [intOf]; omega⟩
      · have hd2 : isD s[k] = false := by simpa using hd
        have hv : vd s[k].toNat = 16 := by simpa [isD] using hd2
        have HG := hide (unhexS_bad s k hlt ha.out hd2)
        clear hd
        go_wp2_with (go_at_call 52; refine (value_any _ _).mono ?_; rintro e w1 ⟨rfl, rfl⟩)
        go_ret2
        exact ⟨by rw [HG.out]; rfl, Below.refl _ _⟩
    · have hke : k = s.size := by omega
      have hal : s.data.toList.all isD = true := by
        have := ha.out
        rwa [List.take_of_length_le (by simp; omega)] at this
      clear ha
      by_cases hodd : s.size % 2 = 1
      · have HG := hide (unhexS_odd s hal hodd)
        have hm : ((s.size : Int) % 2 == 1) = true := by simp; omega
        go_wp2
        go_ret2
        exact ⟨by rw [HG.out]; rfl, Below.refl _ _⟩
      · have HG := hide (unhexS_ok s hal hodd)
        have hm : ((s.size : Int) % 2 == 1) = false := by simp; omega
        have hul := unhexL_len s.data.toList
        have hsz : s.data.toList.length = s.size := by simp
        rw [hsz] at hul
        go_wp2
        go_loopw [5, 6] (fun o i wr => ∃ j : Nat, j ≤ s.size / 2 ∧ i = .int .i64 (2 * (j : Int)) ∧ o = .string ⟨((unhexL s.data.toList).take j).toArray⟩ ∧ Hid (Below w.heap.size w wr)) (fun _ i _ => (s.size - intOf i).toNat)
        case atStart => exact ⟨0, Nat.zero_le _, rfl, rfl, Below.refl _ _⟩
        case round =>
          obtain ⟨j, hj, rfl, rfl, hbel⟩ := hrel
          by_cases hlt2 : j < s.size / 2
          · have h1 : 2 * j < s.size := by omega
            have h2 : 2 * j + 1 < s.size := by omega
            have d1 : vd s[2 * j].toNat ≠ 16 := by
              have := List.all_eq_true.1 hal s[2 * j] (List.getElem_mem (l := s.data.toList) (n := 2 * j) (by simpa using h1))
              simpa [isD] using this
            have d2 : vd s[2 * j + 1].toNat ≠ 16 := by
              have := List.all_eq_true.1 hal s[2 * j + 1] (List.getElem_mem (l := s.data.toList) (n := 2 * j + 1) (by simpa using h2))
              simpa [isD] using this
            have hsn := hide (unhexL_snoc s j h2)
            have hz : (⟨((unhexL s.data.toList).take j).toArray⟩ : ByteArray).size ≤ 281474976710656 := by
              show ((unhexL s.data.toList).take j).toArray.size ≤ _
              simp
              omega
            have hT : Hid ((⟨((unhexL s.data.toList).take j).toArray⟩ : ByteArray).data.toList = (unhexL s.data.toList).take j) := rfl
            generalize (⟨((unhexL s.data.toList).take j).toArray⟩ : ByteArray) = T at hz hT ⊢
            generalize hb1 : s[2 * j] = b1 at d1 hsn
            generalize hb2 : s[2 * j + 1] = b2 at d2 hsn
            have H1 := hide fun W => value_any b1.toNat W
            have H2 := hide fun W => value_any b2.toNat W
            have l1 := vd_lt d1
            have l2 := vd_lt d2
            have htd := two_digits b1 b2 l1 l2
            generalize UInt8.ofNat (vd b1.toNat * 16 + vd b2.toNat) = bb at htd hsn
            have hcv : (convert 40 9 (.slice (some ⟨wr.heap.size, 0, none⟩) 1 1)).run Try.prog (wr.alloc (.cells #[.int .u8 ((vd b1.toNat : Int) * 16 + vd b2.toNat)] 5)).drew = .ok (.string ⟨#[bb]⟩) (wr.alloc (.cells #[.int .u8 ((vd b1.toNat : Int) * 16 + vd b2.toNat)] 5)).drew := conv1 wr.drew _ _ htd
            have o1 : ∀ b : UInt8, (⟨#[b]⟩ : ByteArray).size = 1 := fun b => rfl
            have i0 : (0 : Int) ≤ 2 * j := by omega
            have i1 : 2 * (j : Int) < s.size := by omega
            have i2 : (0 : Int) ≤ 2 * j + 1 := by omega
            have i3 : 2 * (j : Int) + 1 < s.size := by omega
            have w2 : IntKind.i64.wrap (2 * (j : Int) + 1) = 2 * j + 1 := wrap64 _ (by omega) (by omega)
            have w3 : IntKind.u8.wrap ((vd b1.toNat : Int) * 16) = (vd b1.toNat : Int) * 16 := wrap8 _ (by omega) (by omega)
            have w4 : IntKind.u8.wrap ((vd b1.toNat : Int) * 16 + vd b2.toNat) = (vd b1.toNat : Int) * 16 + vd b2.toNat := wrap8 _ (by omega) (by omega)
            have t1 : (2 * (j : Int)).toNat = 2 * j := by omega
            have t2 : (2 * (j : Int) + 1).toNat = 2 * j + 1 := by omega
            clear hal d1 d2 htd
            go_wp2
            go_region_with (first | (go_at_call_of 52 (Value.int .u8 (b1.toNat : Int)); refine (H1.out _).mono ?_; rintro e w3 ⟨rfl, rfl⟩) | (go_at_call_of 52 (Value.int .u8 (b2.toNat : Int)); refine (H2.out _).mono ?_; rintro e w3 ⟨rfl, rfl⟩))
            all_goals go_wp2
            all_goals exact ⟨⟨j + 1, by omega, by congr 1, by rw [str_snoc hT.out hsn.out], hide ((hbel.out.alloc hbel.out.size _).drew)⟩, by simp [intOf]; omega⟩
          · have hje : j = s.size / 2 := by omega
            have HT : Hid ((unhexL s.data.toList).take j = unhexL s.data.toList) := List.take_of_length_le (by omega)
            go_wp2
            go_ret2
            exact ⟨by rw [HG.out, HT.out]; rfl, hbel.out⟩
end
end Go.Proofs.Ytnmffnefkokkeaa
